package tests

import (
	"reflect"
	"slices"
	"strconv"
	"strings"
	"testing"

	"loop.example/g00472/impl"
)

// The codes of Parse beside those of Lex, as the chapter numbers them.
const (
	wrongToken = 7
	longName   = 8
	tooDeep    = 9
	manyNodes  = 10
)

// tree: a node with all that lies in it, as the tests see it.
type tree struct {
	kind int
	at   int
	n    int
	s    string
	kids []tree
}

func tNum(n int) tree                   { return tree{kind: impl.NNum, n: n} }
func tName(s string) tree               { return tree{kind: impl.NName, s: s} }
func tAt(s string, index tree) tree     { return tree{kind: impl.NAt, s: s, kids: []tree{index}} }
func tCall(s string, args ...tree) tree { return tree{kind: impl.NCall, s: s, kids: args} }
func tUnary(s string, of tree) tree     { return tree{kind: impl.NUnary, s: s, kids: []tree{of}} }
func tBinary(s string, a, b tree) tree  { return tree{kind: impl.NBinary, s: s, kids: []tree{a, b}} }
func tSet(s string, v tree) tree        { return tree{kind: impl.NSet, s: s, kids: []tree{v}} }
func tPut(s string, index, v tree) tree { return tree{kind: impl.NPut, s: s, kids: []tree{index, v}} }
func tIf(asked tree, blocks ...tree) tree {
	return tree{kind: impl.NIf, kids: append([]tree{asked}, blocks...)}
}
func tWhile(asked, again tree) tree   { return tree{kind: impl.NWhile, kids: []tree{asked, again}} }
func tReturn(v tree) tree             { return tree{kind: impl.NReturn, kids: []tree{v}} }
func tDo(v tree) tree                 { return tree{kind: impl.NDo, kids: []tree{v}} }
func tVar(s string, v tree) tree      { return tree{kind: impl.NVar, s: s, kids: []tree{v}} }
func tBlock(statements ...tree) tree  { return tree{kind: impl.NBlock, kids: statements} }
func isExpression(kind int) bool      { return kind >= impl.NNum && kind <= impl.NBinary }
func isStatement(kind int) bool       { return kind >= impl.NSet && kind <= impl.NVar }
func (t tree) isBinary() bool         { return t.kind == impl.NBinary }
func (t tree) count() int             { return countAll(t.kids) + 1 }
func (t tree) with(kids ...tree) tree { t.kids = kids; return t }
func (t tree) placedAt(at int) tree   { t.at = at; return t }

func countAll(l []tree) int {
	sum := 0
	for _, t := range l {
		sum += t.count()
	}
	return sum
}

// unplaced: the tree with At 0 everywhere.
func (t tree) unplaced() tree {
	kids := []tree{}
	for _, kid := range t.kids {
		kids = append(kids, kid.unplaced())
	}
	t.at, t.kids = 0, kids
	return t
}

// spelt: the tree in parentheses: the word of its kind, its own, its kids.
func (t tree) spelt() string {
	words := []string{"", "", "", "at", "call", "", "", "set", "put", "if", "while", "return", "do", "var", "block"}
	parts := []string{}
	if t.kind < len(words) && words[t.kind] != "" {
		parts = append(parts, words[t.kind])
	}
	if t.kind == impl.NNum {
		parts = append(parts, strconv.Itoa(t.n))
	}
	if t.s != "" {
		parts = append(parts, t.s)
	}
	for _, kid := range t.kids {
		parts = append(parts, kid.spelt())
	}
	if t.kind == impl.NNum || t.kind == impl.NName {
		return strings.Join(parts, " ")
	}
	return "(" + strings.Join(parts, " ") + ")"
}

// laid: p with these bodies of its functions as nodes, in the order of the document.
func laid(p impl.Source, bodies ...tree) impl.Source {
	p.Fns = slices.Clone(p.Fns)
	p.Nodes = nil
	var put func(t tree) int
	put = func(t tree) int {
		own := len(p.Nodes)
		p.Nodes = append(p.Nodes, impl.Node{Kind: t.kind, At: t.at, N: t.n, S: t.s})
		var kids []int
		for _, kid := range t.kids {
			kids = append(kids, put(kid))
		}
		p.Nodes[own].Kids = kids
		return own
	}
	for k, body := range bodies {
		p.Fns[k].Body = put(body)
	}
	return p
}

// mainOf: the program of one function `main` without params, with these statements.
func mainOf(statements ...tree) impl.Source {
	return laid(impl.Source{Fns: []impl.Fn{{Name: "main"}}}, tBlock(statements...))
}

// bodiesOf: the bodies of p's functions; false where the nodes don't stand as the document says.
func bodiesOf(p impl.Source) (bodies []tree, right bool) {
	next := 0
	right = true
	var take func(at int) tree
	take = func(at int) tree {
		if at != next || at >= len(p.Nodes) {
			right = false
			return tree{}
		}
		next++
		n := p.Nodes[at]
		t := tree{kind: n.Kind, at: n.At, n: n.N, s: n.S}
		for _, kid := range n.Kids {
			if right {
				t.kids = append(t.kids, take(kid))
			}
		}
		return t
	}
	for _, f := range p.Fns {
		if right {
			bodies = append(bodies, take(f.Body))
		}
	}
	return bodies, right && next == len(p.Nodes)
}

// plainSource: p with nil for each empty list.
func plainSource(p impl.Source) impl.Source {
	p.Globals, p.Arrays = nilIfEmpty(p.Globals), nilIfEmpty(p.Arrays)
	p.Fns, p.Nodes = nilIfEmpty(slices.Clone(p.Fns)), nilIfEmpty(slices.Clone(p.Nodes))
	for k := range p.Fns {
		p.Fns[k].Params = nilIfEmpty(p.Fns[k].Params)
	}
	for k := range p.Nodes {
		p.Nodes[k].Kids = nilIfEmpty(p.Nodes[k].Kids)
	}
	return p
}

func sameProgram(a, b impl.Source) bool { return reflect.DeepEqual(plainSource(a), plainSource(b)) }

// unplacedSource: p with At 0 everywhere.
func unplacedSource(p impl.Source) impl.Source {
	p.Nodes = slices.Clone(p.Nodes)
	for k := range p.Nodes {
		p.Nodes[k].At = 0
	}
	return p
}

// parsed: what Parse tells.
type parsed struct {
	p    impl.Source
	code int
	at   int
}

func parseOf(s string) parsed {
	p, code, at := impl.Parse(s)
	return parsed{plainSource(p), code, at}
}

// wantParsed: Parse tells just that, and so does the tests' own reader.
func wantParsed(t *testing.T, s string, want parsed) {
	t.Helper()
	want.p = plainSource(want.p)
	if got := parseOf(s); !reflect.DeepEqual(got, want) {
		t.Errorf("Parse(%.200q) is %s, not %s", s, short(got), short(want))
	}
	if model := wantParse(s); !reflect.DeepEqual(model, want) {
		t.Errorf("the tests' own reader tells %s of %.200q, not %s", short(model), s, short(want))
	}
}

// wantParseFault: Parse tells the code and the place, and nothing beside them.
func wantParseFault(t *testing.T, s string, code, at int) {
	t.Helper()
	wantParsed(t, s, parsed{code: code, at: at})
}

// wantAsParsed: Parse tells what the tests' own reader does.
func wantAsParsed(t *testing.T, s string) parsed {
	t.Helper()
	got, want := parseOf(s), wantParse(s)
	if !reflect.DeepEqual(got, want) {
		t.Errorf("Parse(%.200q) is %s, not %s", s, short(got), short(want))
	}
	return got
}

// wantMainSpelt: the text is that of a program of one function, whose body is spelt so.
func wantMainSpelt(t *testing.T, s, want string) {
	t.Helper()
	got := wantAsParsed(t, s)
	bodies, right := bodiesOf(got.p)
	if got.code != 0 || got.at != 0 || !right || len(bodies) != 1 {
		t.Errorf("Parse(%.200q) is %s", s, short(got))
		return
	}
	if spelt := bodies[0].spelt(); spelt != want {
		t.Errorf("Parse(%.200q) is %s, not %s", s, spelt, want)
	}
}

// wantStatement: the statement is spelt so.
func wantStatement(t *testing.T, s, want string) {
	t.Helper()
	wantMainSpelt(t, "func main() { "+s+" }", "(block "+want+")")
}

// wantExpression: the expression is spelt so.
func wantExpression(t *testing.T, s, want string) {
	t.Helper()
	wantStatement(t, "return "+s+";", "(return "+want+")")
}

// bodyFault: Parse of the text in a body of its own has the code, at that place in the text.
func bodyFault(t *testing.T, s string, code, at int) {
	t.Helper()
	const ahead = "func main() { "
	wantParseFault(t, ahead+s+" }", code, len(ahead)+at)
}

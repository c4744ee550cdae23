package tests

import (
	"math"
	"strings"
	"testing"

	"loop.example/g00472/impl"
)

// allKinds: a program with each kind of node, each place another one.
func allKinds() impl.Source {
	p, _, _ := impl.Parse("int g; int h; int a[4]; int b[0]; func main() { var x = 1; x = y; a[2] = -3; if (x) { f(); } else { } while (a[4]) { return x + 5; } if (6) { } 7; } func f(p, q) { } func g() { !a[f(8, z)]; }")
	return p
}

// placeOf: the place of p's first node of the kind.
func placeOf(p impl.Source, kind int) int {
	for k, n := range p.Nodes {
		if n.Kind == kind {
			return k
		}
	}
	return -1
}

// changed: p with one node changed, in memory of its own.
func changed(p impl.Source, at int, change func(n *impl.Node)) impl.Source {
	p = copiedSource(p)
	change(&p.Nodes[at])
	return p
}

// ofNodes: the program of one function with these nodes.
func ofNodes(nodes ...impl.Node) impl.Source {
	return impl.Source{Fns: []impl.Fn{{Name: "main"}}, Nodes: nodes}
}

func TestForm2OfWhatParseMade(t *testing.T) {
	wantFormOf(t, "each kind", allKinds(), true)
	for _, s := range rightTexts() {
		p, _, _ := impl.Parse(s)
		wantFormOf(t, s, p, true)
	}
	for _, s := range []string{"", "int g;", "int a[0];", "int a[2147483647];", "func f() { }", withNodes(800, false), withNodes(800, true), "func main() { return " + strings.Repeat("(", 28) + "1" + strings.Repeat(")", 28) + "; }", "func main() { return " + strings.Repeat("-", 56) + "1; }"} {
		p, _, _ := impl.Parse(s)
		wantFormOf(t, s, p, true)
	}
}

func TestForm2OfZeroValues(t *testing.T) {
	wantFormOf(t, "nothing", impl.Source{}, true)
	wantFormOf(t, "empty lists", impl.Source{Globals: []string{}, Arrays: []impl.Array{}, Fns: []impl.Fn{}, Nodes: []impl.Node{}}, true)
	wantFormOf(t, "a node", impl.Source{Nodes: []impl.Node{{}}}, false)
	wantFormOf(t, "a node that no function comes to", impl.Source{Nodes: []impl.Node{{Kind: impl.NBlock}}}, false)
	wantFormOf(t, "a function", impl.Source{Fns: []impl.Fn{{}}}, false)
	wantFormOf(t, "a function of that name", impl.Source{Fns: []impl.Fn{{Name: "f"}}}, false)
	wantFormOf(t, "a function and a node", impl.Source{Fns: []impl.Fn{{Name: "f"}}, Nodes: []impl.Node{{}}}, false)
	wantFormOf(t, "a function and a block", ofNodes(impl.Node{Kind: impl.NBlock}), true)
	wantFormOf(t, "a function and a block with an empty list", ofNodes(impl.Node{Kind: impl.NBlock, Kids: []int{}}), true)
	wantFormOf(t, "a global without a name", impl.Source{Globals: []string{""}}, false)
	wantFormOf(t, "an array without a name", impl.Source{Arrays: []impl.Array{{}}}, false)
}

// nameCases: texts, and whether they are names that a program may have.
func nameCases() map[string]bool {
	l := map[string]bool{"x": true, "abcdefghijkl": true, "a23456789_AZ": true, "get": true, "main": true, "iff": true, "abcdefghijklm": false, "": false, "X": false, "_": false, "1": false, "1a": false, "a b": false, " a": false, "a ": false, "a;": false, "a=": false, "(a)": false, "a/**/": false, "é": false, "a\x00": false, "a\n": false, strings.Repeat("a", 7000): false}
	for _, s := range allSigns() {
		l[s] = false
	}
	return l
}

func TestForm2OfNamesOfHeads(t *testing.T) {
	for s, right := range nameCases() {
		wantFormOf(t, "a global", impl.Source{Globals: []string{"g", s}}, right)
		wantFormOf(t, "an array", impl.Source{Arrays: []impl.Array{{Name: s, Size: 1}}}, right)
		for what, f := range map[string]impl.Fn{"a function": {Name: s}, "a param": {Name: "f", Params: []string{s}}, "a second param": {Name: "f", Params: []string{"x", s}}} {
			wantFormOf(t, what, laid(impl.Source{Fns: []impl.Fn{f}}, tBlock()), right)
		}
	}
	// Names may come again: that is asked elsewhere.
	wantFormOf(t, "names again", laid(impl.Source{Globals: []string{"x", "x"}, Arrays: []impl.Array{{Name: "x"}}, Fns: []impl.Fn{{Name: "x", Params: []string{"x", "x"}}}}, tBlock()), true)
}

func TestForm2OfSizes(t *testing.T) {
	for size, right := range map[int]bool{0: true, 1: true, 2147483646: true, 2147483647: true, 2147483648: false, 1 << 32: false, 1<<32 + 1: false, -1: false, impl.MinI: false, math.MaxInt: false, math.MinInt: false} {
		wantFormOf(t, "a size", impl.Source{Arrays: []impl.Array{{Name: "a", Size: size}}}, right)
		wantFormOf(t, "a second size", impl.Source{Arrays: []impl.Array{{Name: "a"}, {Name: "b", Size: size}}}, right)
	}
}

func TestForm2OfPlacesInTheText(t *testing.T) {
	p := allKinds()
	for k := range p.Nodes {
		for at, right := range map[int]bool{0: true, 1: true, 6000: true, math.MaxInt: true, -1: false, math.MinInt: false} {
			wantFormOf(t, "At", changed(p, k, func(n *impl.Node) { n.At = at }), right)
		}
	}
}

func TestForm2OfKinds(t *testing.T) {
	p := allKinds()
	for k, n := range p.Nodes {
		for _, kind := range []int{0, 15, -1, 16, 1<<32 + n.Kind, math.MaxInt, math.MinInt} {
			wantFormOf(t, "no kind", changed(p, k, func(n *impl.Node) { n.Kind = kind }), false)
		}
		for kind := 1; kind <= 14; kind++ {
			wantFormAsModel(t, "another kind", changed(p, k, func(n *impl.Node) { n.Kind = kind }))
		}
	}
}

// Of each kind of node N and S at what is asked and beside it.
func TestForm2OfNumbersAndTexts(t *testing.T) {
	p := allKinds()
	for k, n := range p.Nodes {
		for _, number := range []int{0, 1, -1, 2147483646, 2147483647, 2147483648, impl.MinI, 1 << 32, 1<<32 + 5, math.MaxInt, math.MinInt} {
			right := number == 0 || n.Kind == impl.NNum && number > 0 && number <= 2147483647
			wantFormOf(t, "N", changed(p, k, func(n *impl.Node) { n.N = number }), right)
		}
		named := n.Kind == impl.NName || n.Kind == impl.NAt || n.Kind == impl.NCall || n.Kind == impl.NSet || n.Kind == impl.NPut || n.Kind == impl.NVar
		for s, isName := range nameCases() {
			right := named && isName || !named && s == ""
			switch n.Kind {
			case impl.NUnary:
				right = s == "-" || s == "!" || s == "~"
			case impl.NBinary:
				right = boundLevel(s) >= 0
			}
			wantFormOf(t, "S", changed(p, k, func(n *impl.Node) { n.S = s }), right)
		}
	}
}

// Each sign as that of a node with one kid and of one with two.
func TestForm2OfSigns(t *testing.T) {
	for _, s := range append(allSigns(), "", "x", "++", "-=", "<<<", "- ", " +", "||=", "1") {
		wantFormOf(t, "a sign ahead", mainOf(tDo(tUnary(s, tNum(1)))), s == "-" || s == "!" || s == "~")
		wantFormOf(t, "a sign between", mainOf(tDo(tBinary(s, tNum(1), tNum(2)))), boundLevel(s) >= 0)
	}
}

// sortedKids: for each sort of node two such.
func sortedKids() map[string][]tree {
	var statements, expressions []tree
	for _, n := range []tree{tNum(1), tName("x"), tAt("a", tNum(1)), tCall("f"), tUnary("-", tNum(1)), tBinary("+", tNum(1), tNum(2))} {
		expressions = append(expressions, n)
		statements = append(statements, tDo(n), tReturn(n))
	}
	return map[string][]tree{
		"e": expressions,
		"s": append(statements, tSet("x", tNum(1)), tPut("a", tNum(1), tNum(2)), tVar("x", tNum(1)), tIf(tNum(1), tBlock()), tWhile(tNum(1), tBlock())),
		"b": {tBlock(), tBlock(tDo(tNum(1)))},
	}
}

// Each kind of node with each choice of up to four kids of each sort: too few, too many, and such of another sort.
func TestForm2OfKids(t *testing.T) {
	sorted := sortedKids()
	alone := []tree{tName("x"), tNum(1), tAt("a", tNum(0)), tCall("f"), tUnary("-", tNum(1)), tBinary("*", tNum(1), tNum(2)), tSet("x", tNum(1)), tPut("a", tNum(1), tNum(2)), tIf(tNum(1), tBlock()), tWhile(tNum(1), tBlock()), tReturn(tNum(1)), tDo(tNum(1)), tVar("x", tNum(1)), tBlock()}
	next := spread()
	for _, n := range alone {
		for _, sorts := range texts([]string{"e", "s", "b"}, 4) {
			var kids []tree
			for _, sort := range strings.Split(sorts, "")[:len(sorts)] {
				kids = append(kids, pick(next, sorted[sort]))
			}
			right := kidSorts[n.kind].MatchString(sorts)
			n := n.with(kids...)
			switch {
			case isExpression(n.kind):
				wantFormOf(t, "kids "+sorts, mainOf(tDo(n)), right)
				wantFormOf(t, "kids "+sorts, mainOf(tDo(tUnary("!", n))), right)
				wantFormOf(t, "kids "+sorts, mainOf(tWhile(n, tBlock())), right)
				wantFormOf(t, "kids "+sorts, mainOf(n), false)
			case isStatement(n.kind):
				wantFormOf(t, "kids "+sorts, mainOf(n), right)
				wantFormOf(t, "kids "+sorts, mainOf(tVar("x", tNum(1)), tWhile(tNum(1), tBlock(n)), tDo(tName("x"))), right)
				wantFormOf(t, "kids "+sorts, mainOf(tDo(n)), false)
				wantFormOf(t, "kids "+sorts, mainOf(tIf(tNum(1), n)), false)
			default:
				wantFormOf(t, "kids "+sorts, mainOf(tWhile(tNum(1), n)), right)
				wantFormOf(t, "kids "+sorts, mainOf(n), false)
				wantFormOf(t, "kids "+sorts, mainOf(tDo(n)), false)
			}
			wantFormOf(t, "kids "+sorts, laid(impl.Source{Fns: []impl.Fn{{Name: "main"}}}, n), right && n.kind == impl.NBlock)
		}
	}
}

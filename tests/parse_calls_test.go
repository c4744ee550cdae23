package tests

import (
	"reflect"
	"slices"
	"strings"
	"testing"

	"loop.example/g00472/impl"
)

// someSources: programs that are right and such as aren't.
func someSources() []impl.Source {
	l := []impl.Source{{}, allKinds(), mainOf(tDo(tNum(-1))), mainOf(tNum(1)), {Nodes: []impl.Node{{}}}, {Fns: []impl.Fn{{Name: "f", Params: []string{"x", "y"}}}}}
	for _, s := range rightTexts() {
		p, _, _ := impl.Parse(s)
		l = append(l, p)
	}
	wrong := allKinds()
	wrong.Nodes[3].Kids = []int{0, 3, 99, -1}
	return append(l, wrong)
}

// roomySource: p with room behind each of its lists.
func roomySource(p impl.Source) impl.Source {
	p = copiedSource(p)
	p.Globals, p.Arrays, p.Fns, p.Nodes = slices.Grow(p.Globals, 5), slices.Grow(p.Arrays, 5), slices.Grow(p.Fns, 5), slices.Grow(p.Nodes, 5)
	for k := range p.Fns {
		p.Fns[k].Params = slices.Grow(p.Fns[k].Params, 5)
	}
	for k := range p.Nodes {
		p.Nodes[k].Kids = slices.Grow(p.Nodes[k].Kids, 5)
	}
	return p
}

// wholeLists: all lists of p with the room behind them, in memory of their own.
func wholeLists(p impl.Source) impl.Source {
	p.Globals, p.Arrays, p.Fns, p.Nodes = p.Globals[:cap(p.Globals)], p.Arrays[:cap(p.Arrays)], p.Fns[:cap(p.Fns)], p.Nodes[:cap(p.Nodes)]
	p.Fns, p.Nodes = slices.Clone(p.Fns), slices.Clone(p.Nodes)
	for k, f := range p.Fns {
		p.Fns[k].Params = f.Params[:cap(f.Params)]
	}
	for k, n := range p.Nodes {
		p.Nodes[k].Kids = n.Kids[:cap(n.Kids)]
	}
	return copiedSource(p)
}

// allOfSource: what each function of chapter 9 tells of p.
func allOfSource(p impl.Source) []any {
	return []any{impl.FormOk2(p), impl.PrintSource(p), impl.Weight(p), impl.SameSource(p, p), impl.SameSource(p, allKinds())}
}

func TestSourcesAreLeftAsTheyWere(t *testing.T) {
	for k, p := range someSources() {
		p = roomySource(p)
		kept := wholeLists(p)
		first := allOfSource(p)
		if !reflect.DeepEqual(plainSource(wholeLists(p)), plainSource(kept)) {
			t.Errorf("program %d was changed, or the room behind its lists", k)
		}
		if again := allOfSource(copiedSource(p)); !reflect.DeepEqual(first, again) || !reflect.DeepEqual(first, allOfSource(p)) {
			t.Errorf("of program %d first %s, then %s", k, short(first), short(again))
		}
	}
}

// parseTexts: texts that are right and such as have each code.
func parseTexts() []string {
	l := append(rightTexts(), "", " ", "x", "func main() {", "func main() { return 1 }", "int abcdefghijklm;", withNodes(801, false), withNodes(800, true), "func f() { return "+strings.Repeat("(", 99), strings.Repeat(" ", 6001), "int g; #", "/*", "2147483648")
	for _, f := range statementFaults() {
		l = append(l, "func f() { "+f.s+" }")
	}
	return l
}

func TestParseTellsTheSameEachTime(t *testing.T) {
	l := parseTexts()
	var told []parsed
	for k, s := range l {
		told = append(told, parseOf(s))
		if again := parseOf(strings.Clone(s)); !reflect.DeepEqual(told[k], again) {
			t.Errorf("Parse(%.100q) is first %s, then %s", s, short(told[k]), short(again))
		}
	}
	for k := len(l) - 1; k >= 0; k-- {
		if again := parseOf(l[k]); !reflect.DeepEqual(told[k], again) {
			t.Errorf("Parse(%.100q) is %s, and behind others %s", l[k], short(told[k]), short(again))
		}
	}
}

func TestParseTellsNothingBesideACode(t *testing.T) {
	for _, s := range parseTexts() {
		p, code, at := impl.Parse(s)
		if code != 0 && !reflect.DeepEqual(plainSource(p), impl.Source{}) || code == 0 && at != 0 || code < 0 || code > 10 || code == 5 || code == 6 {
			t.Errorf("Parse(%.100q) is %s, code %d and place %d", s, short(p), code, at)
		}
	}
}

// overwrite writes over all of p, one list after the other, and over the room behind each; it calls look behind each one.
func overwrite(p impl.Source, look func(what string)) {
	for k := range p.Nodes {
		fill(p.Nodes[k].Kids, -7)
		look("Kids")
	}
	for k := range p.Fns {
		fill(p.Fns[k].Params, "?")
		look("Params")
	}
	fill(p.Globals, "?")
	look("Globals")
	fill(p.Arrays, impl.Array{Name: "?", Size: -7})
	look("Arrays")
	fill(p.Fns, impl.Fn{Name: "?"})
	look("Fns")
	fill(p.Nodes, impl.Node{Kind: -7})
	look("Nodes")
}

// What is written into one list of an answer is seen in no other list of it, and in no other answer.
func TestListsOfParseAreNew(t *testing.T) {
	for _, s := range append(rightTexts(), "int g; int h; int a[1]; int b[2]; func f(x, y) { g(x, y, 1 + 2); if (x) { } else { } } func g(p, q, r) { return p; } func k() { }") {
		other, _, _ := impl.Parse(s)
		p, _, _ := impl.Parse(s)
		want := copiedSource(other)
		for k := range p.Nodes {
			left := copiedSource(p)
			kids := p.Nodes[k].Kids
			kept := slices.Clone(kids)
			fill(kids, -7)
			copy(kids, kept)
			if !sameProgram(p, left) {
				t.Errorf("the Kids of node %d of %q share memory with others", k, s)
			}
		}
		for k, f := range p.Fns {
			left := copiedSource(p)
			kept := slices.Clone(f.Params)
			fill(f.Params, "?")
			copy(f.Params, kept)
			if !sameProgram(p, left) {
				t.Errorf("the Params of function %d of %q share memory with others", k, s)
			}
		}
		overwrite(p, func(what string) {
			if !sameProgram(other, want) {
				t.Errorf("what is written into the %s of an answer of Parse(%q) is seen in another", what, s)
			}
		})
		if again, _, _ := impl.Parse(s); !sameProgram(again, want) {
			t.Errorf("what is written into an answer of Parse(%q) is seen in a later one", s)
		}
	}
}

// textsIn: each text that lies in p.
func textsIn(p impl.Source) []string {
	l := slices.Clone(p.Globals)
	for _, a := range p.Arrays {
		l = append(l, a.Name)
	}
	for _, f := range p.Fns {
		l = append(append(l, f.Name), f.Params...)
	}
	for _, n := range p.Nodes {
		l = append(l, n.S)
	}
	return l
}

func TestTextsOfProgramsAreNew(t *testing.T) {
	s := "int g; int a[1]; func f(x, y) { var z = -x + y; a[g] = f(z, !y); }"
	p, _, _ := impl.Parse(s)
	again, _, _ := impl.Parse(s)
	printed := impl.PrintSource(p)
	for k, own := range textsIn(p) {
		if sharing(own, s) || sharing(own, textsIn(again)[k]) || sharing(own, printed) {
			t.Errorf("%q lies in the memory of a text that was handed in, or of another answer", own)
		}
	}
	if sharing(printed, impl.PrintSource(p)) {
		t.Error("two answers of PrintSource lie in the same memory")
	}
}

// Long arguments are answered within a moment, and no call panics.
func TestParseAtLongArguments(t *testing.T) {
	for _, part := range []string{"(", "-", "x", "x;", "1+", "f(", "a[", "{", "}", "int g;", "func f(){", "if(1){", "while(x){", "else", "return ", "=", ",", "x=", "!", ")", "func f(x,", "func f(){x", "1 ", "\xff"} {
		for _, size := range []int{5999, 6000} {
			for _, ahead := range []string{"", "func f(){", "func f(){return ", "func f(){if(1){x=", "func f(){a[", "func f(){f(1,"} {
				s := ahead + textOf(size-len(ahead), part)
				wantAsParsed(t, s)
			}
		}
		if told := parseOf(strings.Repeat(part, 1<<18)); told.code != tooLongText || told.at != 0 {
			t.Errorf("Parse of very many %q is %s", part, short(told))
		}
	}
	big := impl.Source{Globals: times("x", 1<<18), Arrays: times(impl.Array{Name: "a"}, 1<<18)}
	if !impl.FormOk2(big) || len(impl.PrintSource(big)) != 17<<18 || !impl.SameSource(big, big) {
		t.Error("a program of very many globals and arrays isn't right")
	}
	big.Nodes = make([]impl.Node, 1<<18)
	big.Fns = make([]impl.Fn, 1<<18)
	if impl.FormOk2(big) || impl.PrintSource(big) != "" || impl.Weight(big) != 0 {
		t.Error("a program of very many nodes is right")
	}
}

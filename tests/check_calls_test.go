package tests

import (
	"math"
	"reflect"
	"slices"
	"testing"

	"loop.example/g00472/impl"
)

// checkSources: programs without a fault and with each one, and such as are no programs.
func checkSources(t *testing.T) []impl.Source {
	t.Helper()
	l := someSources()
	for _, s := range []string{
		"int g; int h; int a[3]; int b[1]; func f(x, y) { var z = x; if (z) { var w = f(k(), z); } return a[w]; } func k() { main(); return size(b); } func main() { b[0] = f(g, h); put(get()); } func l(p) { k(); l(p); f(1, 2); }",
		"func main() { }", "func main() { var x = 1; var y = x; }",
		"int g; int g; func main() { }", "int a[0]; func main() { }", "func main(x) { }", "func f(x, x) { } func main() { f(1, 2); }",
		"int a[1]; func main() { var a = 1; return a[0]; }", "func f(x) { } func main() { f(); }", "func f(x) { } func main() { return y; }", "int g; func main() { return size(g); }",
	} {
		l = append(l, sourceOf(t, s))
	}
	return l
}

func TestCheckLeavesProgramsAsTheyWere(t *testing.T) {
	for k, p := range checkSources(t) {
		p = roomySource(p)
		kept := wholeLists(p)
		first := allOfCheck(p)
		if !reflect.DeepEqual(plainSource(wholeLists(p)), plainSource(kept)) {
			t.Errorf("program %d was changed, or the room behind its lists", k)
		}
		if again := allOfCheck(copiedSource(p)); !sameTold(first, again) || !sameTold(first, allOfCheck(p)) {
			t.Errorf("of program %d first %s, then %s", k, short(first), short(again))
		}
	}
}

// What is told of a program doesn't hang on those that were asked ahead of it.
func TestCheckTellsTheSameEachTime(t *testing.T) {
	l := checkSources(t)
	var told [][]any
	for _, p := range l {
		told = append(told, allOfCheck(p))
	}
	for range 5 {
		for k := len(l) - 1; k >= 0; k-- {
			if again := allOfCheck(l[k]); !sameTold(told[k], again) {
				t.Errorf("of program %d first %s, then %s", k, short(told[k]), short(again))
			}
		}
	}
}

// What is written into an answer is seen neither in the program nor in another answer.
func TestListsOfCheckAreNew(t *testing.T) {
	for _, p := range checkSources(t) {
		p = roomySource(p)
		kept := wholeLists(p)
		first := allOfCheck(p)
		for fn := range p.Fns {
			locals, other := impl.LocalsOf(p, fn), impl.LocalsOf(p, fn)
			want := slices.Clone(other)
			fill(locals, "?")
			if !slices.Equal(other, want) {
				t.Errorf("two answers of LocalsOf %d share memory", fn)
			}
			calls, others := impl.Calls(p, fn), impl.Calls(p, fn)
			numbers := slices.Clone(others)
			fill(calls, -7)
			if !slices.Equal(others, numbers) {
				t.Errorf("two answers of Calls %d share memory", fn)
			}
		}
		reached, other := impl.Reached(p), impl.Reached(p)
		want := slices.Clone(other)
		fill(reached, -7)
		if !slices.Equal(other, want) {
			t.Error("two answers of Reached share memory")
		}
		if !reflect.DeepEqual(plainSource(wholeLists(p)), plainSource(kept)) || !sameTold(first, allOfCheck(p)) {
			t.Errorf("what is written into an answer is seen in the program %s", short(p))
		}
	}
}

func TestTextsOfCheckAreNew(t *testing.T) {
	for _, p := range checkSources(t) {
		for fn := range p.Fns {
			again := impl.LocalsOf(p, fn)
			for k, name := range impl.LocalsOf(p, fn) {
				if slices.ContainsFunc(append(textsIn(p), again[k]), func(s string) bool { return sharing(name, s) }) {
					t.Errorf("%q lies in the memory of a text that was handed in, or of another answer", name)
				}
			}
		}
	}
}

// Any argument is answered, in a moment, without a panic.
func TestCheckAtAllArguments(t *testing.T) {
	for _, p := range checkSources(t) {
		for _, fn := range samples() {
			locals, calls := impl.LocalsOf(p, fn), impl.Calls(p, fn)
			if (fn < 0 || fn >= len(p.Fns)) && (len(locals) != 0 || len(calls) != 0) {
				t.Errorf("of function %d LocalsOf is %q, Calls %v", fn, locals, calls)
			}
		}
		for k := range p.Nodes {
			for _, n := range []int{-1, 0, k, len(p.Nodes), math.MaxInt, math.MinInt} {
				q := copiedSource(p)
				q.Nodes[k].Kids = append(q.Nodes[k].Kids, n)
				wantAsChecked(t, "a kid more", q)
				q = copiedSource(p)
				q.Nodes[k].Kind = n
				wantAsChecked(t, "another kind", q)
			}
		}
		for fn := range p.Fns {
			for _, n := range []int{-1, 0, 1, len(p.Nodes), math.MaxInt, math.MinInt} {
				q := copiedSource(p)
				q.Fns[fn].Body = n
				wantAsChecked(t, "another Body", q)
			}
		}
	}
	const many = 1 << 18
	big := impl.Source{Globals: counted("g", many), Arrays: sizesOf(times(1, many)...).Arrays, Fns: []impl.Fn{{Name: "main", Params: counted("p", many)}}, Nodes: []impl.Node{{Kind: impl.NBlock}}}
	if code, at := impl.Check(big); code != tooMuch || at != 0 {
		t.Errorf("Check of very many names is %d, %d", code, at)
	}
	big.Globals = times("g", many)
	if code, at := impl.Check(big); code != takenName || at != 0 {
		t.Errorf("Check of one name very many times is %d, %d", code, at)
	}
	big.Nodes = make([]impl.Node, many)
	if code, at := impl.Check(big); code != noProgram || at != 0 {
		t.Errorf("Check of very many nodes is %d, %d", code, at)
	}
}

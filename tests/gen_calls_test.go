package tests

import (
	"bytes"
	"math"
	"reflect"
	"slices"
	"strings"
	"testing"

	"loop.example/g00472/impl"
)

// generated: what Gen tells, in lists of their own.
type generated struct {
	m  impl.Module
	ok bool
}

func generatedOf(p impl.Source) generated {
	m, ok := impl.Gen(p)
	return generated{nilled(copied(m)), ok}
}

// genSources: programs with a module, such as have none, and such as have a fault.
func genSources(t *testing.T) []impl.Source {
	t.Helper()
	l := append(checkSources(t), noPrograms(t)...)
	for _, s := range compileTexts() {
		if p, code, _ := impl.Parse(s); code == 0 {
			l = append(l, p)
		}
	}
	manyLively(40, func(p impl.Source, in []int) { l = append(l, p) })
	return l
}

// compileTexts: texts with a module, such as have none, and such as have each sort of fault.
func compileTexts() []string {
	l := []string{
		"", "func main() { }", "func main() { x; }", "func main() { 1 = 2; }", "#", "int a[1]; func main() { " + statementsOf(1500) + "}", "int a[1]; func main() { " + statementsOf(1499) + "}",
		"int g; int h; int a[3]; int b[2]; func f(x, y) { var z = x; if (z && y) { b[x] = -y; } else { while (g < 3) { g = g + 1; } } return f2() + ~z; } func f2() { return !get(); } func main() { put(f(g, h)); a[1] = size(b); return a[g] / h; }",
		"func f(" + strings.Join(counted("x", 29), ", ") + ") { } func main() { }",
	}
	for _, texts := range codedTexts() {
		l = append(l, texts...)
	}
	slices.Sort(l)
	return l
}

// Gen changes no program, and what it tells hangs on the program alone.
func TestGenLeavesPrograms(t *testing.T) {
	l := genSources(t)
	var first []generated
	for k, p := range l {
		p = roomySource(p)
		kept := wholeLists(p)
		first = append(first, generatedOf(p))
		if !reflect.DeepEqual(plainSource(wholeLists(p)), plainSource(kept)) {
			t.Errorf("program %d was changed, or the room behind its lists", k)
		}
		if again := generatedOf(copiedSource(p)); !reflect.DeepEqual(first[k], again) {
			t.Errorf("of program %d first %s, then %s", k, modulesText(first[k].m), modulesText(again.m))
		}
	}
	for k := len(l) - 1; k >= 0; k-- {
		if again := generatedOf(l[k]); !reflect.DeepEqual(first[k], again) {
			t.Errorf("of program %d %s, and behind others %s", k, modulesText(first[k].m), modulesText(again.m))
		}
	}
}

// What is written into a list of a module is seen in no other list of it, in no other module, and not in the program.
func TestModulesOfGenAreNew(t *testing.T) {
	for at, p := range genSources(t) {
		p = roomySource(p)
		keptP := wholeLists(p)
		whole, _ := impl.Gen(p)
		want := generatedOf(p)
		for k := range lists(whole) {
			got, ok := impl.Gen(p)
			before := told(got)
			funcs := slices.Clone(got.Funcs)
			lists(got)[k]()
			after := told(impl.Module{Sigs: got.Sigs, Imports: got.Imports, Funcs: funcs, Globals: got.Globals, Exports: got.Exports, Data: got.Data})
			for other := range before {
				if other != k && !reflect.DeepEqual(before[other], after[other]) {
					t.Errorf("of program %d writing over list %d changed list %d", at, k, other)
				}
			}
			if ok != want.ok || !reflect.DeepEqual(generatedOf(p), want) || !alike(whole, want.m) {
				t.Errorf("of program %d writing over list %d is seen in another module", at, k)
			}
		}
		if !reflect.DeepEqual(plainSource(wholeLists(p)), plainSource(keptP)) {
			t.Errorf("what is written into the module of program %d is seen in it", at)
		}
		overwrite(p, func(what string) {
			if !alike(whole, want.m) {
				t.Errorf("what is written into %s of program %d is seen in its module", what, at)
			}
		})
	}
}

// clonedTexts: p with each text in memory of its own, where no constant lies.
func clonedTexts(p impl.Source) impl.Source {
	p = copiedSource(p)
	for k, name := range p.Globals {
		p.Globals[k] = strings.Clone(name)
	}
	for k, a := range p.Arrays {
		p.Arrays[k].Name = strings.Clone(a.Name)
	}
	for k, f := range p.Fns {
		p.Fns[k].Name = strings.Clone(f.Name)
		for at, name := range f.Params {
			f.Params[at] = strings.Clone(name)
		}
	}
	for k, n := range p.Nodes {
		p.Nodes[k].S = strings.Clone(n.S)
	}
	return p
}

func TestTextsOfGenAreNew(t *testing.T) {
	for _, p := range genSources(t) {
		p = clonedTexts(p)
		m, _ := impl.Gen(p)
		var texts []string
		for _, i := range m.Imports {
			texts = append(texts, i.Mod, i.Name)
		}
		for _, e := range m.Exports {
			texts = append(texts, e.Name)
		}
		for _, text := range texts {
			if slices.ContainsFunc(textsIn(p), func(s string) bool { return sharing(text, s) }) {
				t.Errorf("%q lies in the memory of a text that was handed in", text)
			}
		}
	}
}

// What Compile tells hangs on the text alone, and is new.
func TestCompileTellsTheSameEachTime(t *testing.T) {
	l := append(compileTexts(), parseTexts()...)
	var first []compiled
	for k, s := range l {
		first = append(first, compiledOf(s))
		kept := bytes.Clone(first[k].bytes)
		again := compiledOf(strings.Clone(s))
		if !reflect.DeepEqual(first[k], again) {
			t.Errorf("Compile(%.200q) is first %v, then %v", s, first[k], again)
		}
		fill(again.bytes, 99)
		if !bytes.Equal(first[k].bytes, kept) {
			t.Errorf("what is written into the bytes of %.200q is seen in others", s)
		}
		if first[k].code != 0 && len(first[k].bytes) != 0 || first[k].code == 0 && first[k].at != 0 {
			t.Errorf("Compile(%.200q) is %v", s, first[k])
		}
	}
	for k := len(l) - 1; k >= 0; k-- {
		if again := compiledOf(l[k]); !reflect.DeepEqual(first[k], again) {
			t.Errorf("Compile(%.200q) is %v, and behind others %v", l[k], first[k], again)
		}
	}
}

// executeBytes: bytes of right texts, such as are no module's, and such as have no main that can be run.
func executeBytes(t *testing.T) [][]byte {
	t.Helper()
	l := someBytes()
	for _, s := range compileTexts() {
		if b, code, _ := impl.Compile(s); code == 0 {
			l = append(l, b)
		}
	}
	for _, s := range []string{"int g; int h; func main() { g = 6; while (1) { put(get()); h = h + 1; } }", "int g; func main() { g = 6; put(7); main(); }", "int g; int a[3]; func main() { g = 6; put(7); a[g] = 1; }"} {
		l = append(l, bytesOf(t, s))
	}
	return append(l, shortest().module(machine(t, 0, "call 0;call 1")))
}

// Execute changes neither the bytes nor in, nor what lies behind them, and its answer hangs on the arguments alone.
func TestExecuteLeavesItsArguments(t *testing.T) {
	l := executeBytes(t)
	given := []int{5, 1 << 33, -3, 1<<32 - 2, 8, 77, 78}
	in := given[:5]
	keptIn := slices.Clone(given)
	first := map[[2]int]impl.Result{}
	fuels := []int{-1, 0, 7, 60, 20000}
	for k, b := range l {
		all := append(slices.Clone(b), 1, 0, 11, 255)
		kept := bytes.Clone(all)
		for at, fuel := range fuels {
			first[[2]int{k, at}] = impl.Execute(all[:len(b)], in, fuel)
			if again := impl.Execute(slices.Clip(bytes.Clone(b)), slices.Clone(in), fuel); !whole(again, first[[2]int{k, at}]) {
				t.Errorf("Execute is first %+v, then %+v", first[[2]int{k, at}], again)
			}
		}
		if !bytes.Equal(all, kept) || !slices.Equal(given, keptIn) {
			t.Errorf("Execute changed bytes %d, or in, or what lies behind them", k)
		}
	}
	for k := len(l) - 1; k >= 0; k-- {
		for at, fuel := range fuels {
			if again := impl.Execute(l[k], in, fuel); !whole(again, first[[2]int{k, at}]) {
				t.Errorf("Execute is %+v, and behind others %+v", first[[2]int{k, at}], again)
			}
		}
	}
}

// What is written into an answer is seen in no other answer, in no other list of it, and in no argument.
func TestAnswersOfExecuteAreNew(t *testing.T) {
	for k, b := range executeBytes(t) {
		in := []int{5, 1 << 33, -3}
		keptB, keptIn := bytes.Clone(b), slices.Clone(in)
		first, again := impl.Execute(b, in, 300), impl.Execute(b, in, 300)
		want := again
		want.Out, want.Globals = slices.Clone(again.Out), slices.Clone(again.Globals)
		spoilt(first)
		if !whole(again, want) || !whole(impl.Execute(b, in, 300), want) || !bytes.Equal(b, keptB) || !slices.Equal(in, keptIn) {
			t.Errorf("what is written into the answer %d is seen elsewhere", k)
		}
		fill(again.Out, 77)
		if !slices.Equal(again.Globals, want.Globals) {
			t.Errorf("what is written into Out of answer %d is seen in Globals", k)
		}
		third := impl.Execute(b, in, 300)
		fill(third.Globals, 88)
		if !slices.Equal(third.Out, want.Out) {
			t.Errorf("what is written into Globals of answer %d is seen in Out", k)
		}
		fourth := impl.Execute(b, in, 300)
		fill(in, 99)
		spoil(b)
		if !whole(fourth, want) {
			t.Errorf("what is written into an argument is seen in answer %d", k)
		}
	}
}

// Nil is a list without elements.
func TestNilAndEmptyOfExecute(t *testing.T) {
	b := bytesOf(t, "func main() { put(get()); return get(); }")
	if first, again := impl.Execute(b, nil, 99), impl.Execute(b, []int{}, 99); !whole(first, again) || !whole(first, saying(done(-1, 6), 255)) {
		t.Errorf("with nil Execute is %+v, with a list without elements %+v", first, again)
	}
	if first, again := impl.Execute(nil, nil, 99), impl.Execute([]byte{}, nil, 99); !whole(first, bad) || !whole(again, bad) {
		t.Errorf("of nil Execute is %+v, of no bytes %+v", first, again)
	}
	var p impl.Source
	q := impl.Source{Globals: []string{}, Arrays: []impl.Array{}, Fns: []impl.Fn{}, Nodes: []impl.Node{}}
	if !reflect.DeepEqual(generatedOf(p), generatedOf(q)) || generatedOf(p).ok {
		t.Error("Gen of an empty program isn't nothing")
	}
}

// Any argument is answered, in a moment, without a panic.
func TestGenAtAllArguments(t *testing.T) {
	for _, p := range checkSources(t) {
		for k := range p.Nodes {
			for _, n := range []int{-1, 0, k, len(p.Nodes), math.MaxInt, math.MinInt} {
				wantAsGenerated(t, "a kid more", changed(p, k, func(node *impl.Node) { node.Kids = append(slices.Clone(node.Kids), n) }))
				wantAsGenerated(t, "another kind", changed(p, k, func(node *impl.Node) { node.Kind = n }))
				wantAsGenerated(t, "another number", changed(p, k, func(node *impl.Node) { node.N = n }))
			}
			for _, s := range []string{"", "x", "main", "get", "+", "&&", "nobody"} {
				wantAsGenerated(t, "another text", changed(p, k, func(node *impl.Node) { node.S = s }))
			}
		}
	}
	const many = 1 << 18
	big := impl.Source{Globals: counted("g", many), Fns: []impl.Fn{{Name: "main", Params: counted("p", many)}}, Nodes: make([]impl.Node, many)}
	if m, ok := impl.Gen(big); ok || !alike(m, impl.Module{}) {
		t.Error("Gen of very many names and nodes tells a module")
	}
	for _, s := range []string{strings.Repeat("x", 1<<20), strings.Repeat("(", 6000), "func main() { return " + strings.Repeat("-", 5000) + "1; }", strings.Repeat("\xff", 100)} {
		if got := compiledOf(s); got.code == 0 {
			t.Errorf("Compile of %.40q has no code", s)
		}
	}
	for _, c := range []byte{0, 1, 11, 127, 128, 255} {
		run := bytes.Repeat([]byte{c}, 1<<20)
		for _, b := range [][]byte{run, append([]byte(headBytes), run...)} {
			if got := impl.Execute(b, times(1, 5000), math.MaxInt); !whole(got, bad) {
				t.Errorf("Execute of many bytes %d is %+v", c, got)
			}
		}
	}
}

// The greatest programs are compiled and run in a moment, however much is in the in.
func TestGreatestProgramsAreCompiled(t *testing.T) {
	for _, s := range []string{withNodes(800, false), withNodes(800, true), "int a[1]; func main() { " + statementsOf(1499) + "}", "int a[1]; " + eachAs([]string{"f", "main"}, "func *() { "+statementsOf(1499)+"} ")} {
		wantCompiled(t, s)
	}
	b := bytesOf(t, "int g; int a[8000]; func main() { while (1) { g = g + 1; a[g] = get(); put(a[g]); } }")
	for range 40 {
		if got := impl.Execute(b, times(300, 100000), math.MaxInt); got.End != impl.EndFuel || len(got.Out) < 500 || got.Out[0] != 44 {
			t.Errorf("Execute is %s", short(got))
		}
	}
}

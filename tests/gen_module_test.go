package tests

import (
	"strings"
	"testing"

	"loop.example/g00472/impl"
)

// wantHead: all of the module but its bodies.
func wantHead(t *testing.T, s string, want impl.Module) {
	t.Helper()
	p := sourceOf(t, s)
	wantAsGenerated(t, s, p)
	got, ok := impl.Gen(p)
	for k := range got.Funcs {
		got.Funcs[k].Body = nil
	}
	if !ok || !alike(got, want) {
		t.Errorf("Gen is %+v, %v, not %+v, of %.300s", got, ok, want, s)
	}
}

// headOf: the module of functions with as many params and other locals as told, main the one with that number.
func headOf(main, globals int, paramsAndVars ...[2]int) impl.Module {
	most := 0
	m := impl.Module{Pages: 1, Most: 1, Globals: times(impl.Global{Mut: true}, 1+globals), Exports: []impl.Export{{Name: "main", Index: 2 + main}}}
	for _, f := range paramsAndVars {
		most = max(most, f[0])
		m.Funcs = append(m.Funcs, impl.Func{Sig: f[0], Locals: f[1] + 1})
	}
	for params := 0; params <= most; params++ {
		m.Sigs = append(m.Sigs, impl.Sig{Params: params, Results: 1})
	}
	m.Imports = []impl.Import{{Mod: "io", Name: "get", Sig: 0}, {Mod: "io", Name: "put", Sig: len(m.Sigs)}}
	m.Sigs = append(m.Sigs, impl.Sig{Params: 1, Results: 0})
	return m
}

// The module of the least program, written out.
func TestModuleOfMainAlone(t *testing.T) {
	want := impl.Module{
		Sigs:    []impl.Sig{{Params: 0, Results: 1}, {Params: 1, Results: 0}},
		Imports: []impl.Import{{Mod: "io", Name: "get", Sig: 0}, {Mod: "io", Name: "put", Sig: 1}},
		Funcs:   []impl.Func{{Sig: 0, Locals: 1, Body: []impl.Ins{{Op: 65}}}},
		Pages:   1,
		Most:    1,
		Globals: []impl.Global{{Mut: true, Init: 0}},
		Exports: []impl.Export{{Name: "main", Kind: 0, Index: 2}},
	}
	p := sourceOf(t, "func main() { }")
	if got, ok := impl.Gen(p); !ok || !alike(got, want) {
		t.Errorf("Gen is %+v, %v, not %+v", got, ok, want)
	}
	wantHead(t, "func main() { }", headOf(0, 0, [2]int{}))
}

func TestHeadsOfModules(t *testing.T) {
	for _, c := range []struct {
		s    string
		want impl.Module
	}{
		{"func main() { var x = 1; var y = 2; }", headOf(0, 0, [2]int{0, 2})},
		{"int g; func main() { }", headOf(0, 1, [2]int{})},
		{"int g; int h; int k; func main() { g = 5; }", headOf(0, 3, [2]int{})},
		{"int a[3]; func main() { a[0] = 1; }", headOf(0, 0, [2]int{})},
		{"int a[8000]; int g; func main() { }", headOf(0, 1, [2]int{})},
		{"func f() { } func main() { }", headOf(1, 0, [2]int{}, [2]int{})},
		{"func main() { } func f() { }", headOf(0, 0, [2]int{}, [2]int{})},
		{"func f(x) { } func main() { }", headOf(1, 0, [2]int{1, 0}, [2]int{})},
		{"func f(x) { } func main() { var x = 1; } func g(x, y, z) { var w = 1; } func h(x, y) { }", headOf(1, 0, [2]int{1, 0}, [2]int{0, 1}, [2]int{3, 1}, [2]int{2, 0})},
		{"func f(a, b, c, d, e) { var x = 1; var y = 2; } func main() { }", headOf(1, 0, [2]int{5, 2}, [2]int{})},
		{"func main() { if (1) { var x = 1; } else { while (0) { var y = 1; } } }", headOf(0, 0, [2]int{0, 2})},
	} {
		wantHead(t, c.s, c.want)
	}
}

// The `put` that comes from outside stands behind as many Sigs as the greatest number of params, and one.
func TestSigOfPut(t *testing.T) {
	for count := range 29 {
		params := strings.Join(counted("x", count), ", ")
		wantHead(t, "func f("+params+") { put(1); } func main() { put(get()); } func k(x) { }", headOf(1, 0, [2]int{count, 0}, [2]int{}, [2]int{1, 0}))
		m, _ := impl.Gen(sourceOf(t, "func f("+params+") { put(1); } func main() { }"))
		if sig, ok := impl.SigOf(m, 1); !ok || sig != (impl.Sig{Params: 1}) || m.Imports[1].Sig != count+1 || len(m.Sigs) != count+2 {
			t.Errorf("with %d params SigOf put is %+v, %v, in %+v", count, sig, ok, m.Sigs)
		}
		for index := 2; index < 4; index++ {
			if sig, ok := impl.SigOf(m, index); !ok || sig != (impl.Sig{Params: count * one(index == 2), Results: 1}) {
				t.Errorf("with %d params SigOf %d is %+v, %v", count, index, sig, ok)
			}
		}
	}
}

// As many globals, functions, cells and locals as there may be.
func TestGreatHeads(t *testing.T) {
	globals := eachAs(counted("g", 29), "int *; ")
	wantHead(t, globals+"func main() { g28 = g0; }", headOf(0, 29, [2]int{}))
	functions := eachAs(counted("f", 39), "func *(x) { } ")
	wantHead(t, functions+"func main() { }", headOf(39, 0, append(times([2]int{1, 0}, 39), [2]int{})...))
	wantHead(t, "func main() { "+eachAs(counted("v", 40), "var * = 1; ")+"}", headOf(0, 0, [2]int{0, 40}))
	most := "func f(" + strings.Join(counted("x", 28), ", ") + ") { " + eachAs(counted("v", 12), "var * = x0; ") + "} "
	wantHead(t, globals+eachAs(counted("f", 38), "func *() { } ")+most+"func main() { }", headOf(39, 29, append(times([2]int{}, 38), [2]int{28, 12}, [2]int{})...))
	// The last local is the one more, however many there are.
	wantFunction(t, "int a[8000]; func main() { "+eachAs(counted("v", 40), "var * = 1; ")+"return a[v39]; }", 0, 41,
		joined(manyVars(40), cellCode("local.get 39", "40", "8000"), "i32.load 0 2;return;i32.const 0"))
}

// manyVars: the code of so many vars, each with the value 1.
func manyVars(count int) string {
	var l []string
	for k := range count {
		l = append(l, "i32.const 1;local.set "+impl.NumText(k))
	}
	return strings.Join(l, ";")
}

package tests

import (
	"reflect"
	"testing"

	"loop.example/g00472/impl"
)

// machine: a module with the body in its first function, number 3, which is
// its main, without Params, with three Locals and as many results as told.
// There are the imports 0 (io get), 1 (io put) and 2 (one that nobody has), the
// function 4 (the difference of its Params), the function 5 (adds 1 to global
// 0), a global with Mut and one without, and a page of memory.
func machine(t *testing.T, results int, text string) impl.Module {
	t.Helper()
	return impl.Module{
		Sigs:    []impl.Sig{{Results: results}, {Results: 1}, {Params: 1}, {Params: 2, Results: 1}, {}},
		Imports: []impl.Import{{Mod: "io", Name: "get", Sig: 1}, {Mod: "io", Name: "put", Sig: 2}, {Mod: "io", Name: "none", Sig: 4}},
		Funcs: []impl.Func{
			{Sig: 0, Locals: 3, Body: bodyOf(t, text)},
			{Sig: 3, Body: bodyOf(t, "local.get 0;local.get 1;i32.sub")},
			{Sig: 4, Body: bodyOf(t, "global.get 0;i32.const 1;i32.add;global.set 0")},
		},
		Pages:   1,
		Most:    -1,
		Globals: []impl.Global{{Mut: true, Init: 5}, {Init: -5}},
		Exports: []impl.Export{{Name: "main", Index: 3}},
	}
}

// alone: a module with one function of the body alone, without memory.
func alone(t *testing.T, sig impl.Sig, text string) impl.Module {
	t.Helper()
	return impl.Module{Sigs: []impl.Sig{sig}, Funcs: []impl.Func{{Body: bodyOf(t, text)}}, Pages: -1, Most: -1}
}

func done(n, steps int) impl.Result { return impl.Result{End: impl.EndDone, N: n, Steps: steps} }

func trapped(why, steps int) impl.Result {
	return impl.Result{End: impl.EndTrap, Why: why, Steps: steps}
}

func ended(end, steps int) impl.Result { return impl.Result{End: end, Steps: steps} }

func saying(r impl.Result, out ...int) impl.Result {
	r.Out = out
	return r
}

func leaving(r impl.Result, globals ...int) impl.Result {
	r.Globals = globals
	return r
}

var bad = impl.Result{End: impl.EndBad}

// plainResult: the same with nil for lists without elements.
func plainResult(r impl.Result) impl.Result {
	r.Out, r.Globals = nilIfEmpty(r.Out), nilIfEmpty(r.Globals)
	return r
}

// whole: all fields are the same, Steps and Globals too.
func whole(a, b impl.Result) bool { return reflect.DeepEqual(plainResult(a), plainResult(b)) }

func wantRun(t *testing.T, m impl.Module, index int, args, in []int, fuel int, want impl.Result) {
	t.Helper()
	if got := impl.Run(m, index, args, in, fuel); !whole(got, want) {
		t.Errorf("Run at %d with %v, %v and fuel %d is %+v, not %+v, of %s", index, args, in, fuel, got, want, textsOf(m))
	}
}

// textsOf: the bodies of m, the first ones cut where they are long.
func textsOf(m impl.Module) []string {
	var l []string
	for _, f := range m.Funcs {
		text := impl.BodyText(f.Body)
		l = append(l, text[:min(len(text), 400)])
	}
	return l
}

// wantMain: what RunMain, and Run at main, tell of the body, with as much fuel
// as there may be; the tests' own machine has to tell the same, at each fuel
// about which the run is asked. Globals that aren't told are as at first.
func wantMain(t *testing.T, results int, text string, in []int, want impl.Result) {
	t.Helper()
	m := machine(t, results, text)
	if want.Globals == nil {
		want.Globals = []int{5, -5}
	}
	wantRun(t, m, 3, nil, in, impl.MaxFuel, want)
	if got := impl.RunMain(m, in, impl.MaxFuel); !whole(got, want) {
		t.Errorf("RunMain is %+v, not %+v, of %q", got, want, text)
	}
	for _, fuel := range []int{0, 1, want.Steps / 2, want.Steps - 1, want.Steps, want.Steps + 1} {
		wantAsPlayed(t, m, 3, nil, in, fuel)
	}
}

// wantN: a body that comes to its end with the number, whatever its Steps.
func wantN(t *testing.T, m impl.Module, index int, args []int, want int) {
	t.Helper()
	r := impl.Run(m, index, args, nil, impl.MaxFuel)
	if r.End != impl.EndDone || r.Why != 0 || r.N != want {
		t.Errorf("Run at %d with %v is %+v, and N isn't %d, of %s", index, args, r, want, textsOf(m))
	}
}

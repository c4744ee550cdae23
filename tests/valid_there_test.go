package tests

import (
	"math"
	"strconv"
	"testing"

	"loop.example/g00472/impl"
)

// atIndex: an operation with an index, with the values that it takes ahead of
// it and its results dropped behind it, and the place where it stands.
func atIndex(d doer, index int) (text string, at int) {
	return joined(values(d.takes), d.text+" "+strconv.Itoa(index), drops(d.puts)), d.takes
}

// indexes: from 0 on past each number of things, and up to the most that may be written.
func indexes() []int { return []int{0, 1, 2, 3, 4, 5, 6, 59, 60, 61, 119, 120, 121, 999, 1000} }

// Locals are there among the Params, then among the Locals, and no further.
func TestLocalsThatAreThere(t *testing.T) {
	for _, d := range []doer{{"local.get", 0, 1}, {"local.set", 1, 0}, {"local.tee", 1, 1}} {
		for _, params := range []int{0, 1, 2, 60} {
			for _, locals := range []int{0, 1, 3, 60} {
				for _, index := range indexes() {
					text, at := atIndex(d, index)
					m := around(t, 0, text)
					m.Sigs[0].Params, m.Funcs[0].Locals = params, locals
					want := -1
					if index >= params+locals {
						want = at
					}
					if got := impl.FaultAt(m, 0); got != want {
						t.Errorf("with %d Params and %d Locals FaultAt of %q is %d", params, locals, text, got)
					}
				}
			}
		}
	}
}

// The Params are those of the function's own Sig, not of the first one's.
func TestLocalsOfAnotherFunction(t *testing.T) {
	m := around(t, 0, "")
	for i, params := range []int{2, 2, 3} {
		for index := range 8 {
			m.Funcs[i].Body = bodyOf(t, "local.get "+strconv.Itoa(index)+";return")
			want := -1
			if index >= params+m.Funcs[i].Locals {
				want = 0
			}
			wantTold(t, m, i, want, map[bool][]int{true: {0, 1}}[want == -1])
		}
	}
}

// Globals are there up to their number; one without Mut isn't set.
func TestGlobalsThatAreThere(t *testing.T) {
	for count := 0; count <= impl.MaxGlobals; count += 6 {
		for _, index := range append(indexes(), 29, 30) {
			for _, mut := range []bool{false, true} {
				globals := times(impl.Global{Mut: !mut}, count)
				if index < count {
					globals[index].Mut = mut
				}
				for _, d := range []doer{{"global.get", 0, 1}, {"global.set", 1, 0}} {
					text, at := atIndex(d, index)
					m := around(t, 0, text)
					m.Globals = globals
					want := -1
					if index >= count || d.takes == 1 && !mut {
						want = at
					}
					if got := impl.FaultAt(m, 0); got != want {
						t.Errorf("with %d globals, Mut %v, FaultAt of %q is %d", count, mut, text, got)
					}
				}
			}
		}
	}
}

// Operations on the memory go where there is one, be it of no pages, and nowhere else.
func TestMemoryThatIsThere(t *testing.T) {
	for _, d := range []doer{{"i32.load 0 2", 1, 1}, {"i32.store 0 2", 2, 0}, {"memory.size", 0, 1}, {"memory.grow", 1, 1}} {
		for _, ahead := range []string{"", "unreachable"} {
			for _, memory := range [][2]int{{-1, -1}, {0, -1}, {0, 0}, {1, 1}, {2, -1}, {2, 65536}} {
				text := joined(ahead, values(d.takes), d.text, drops(d.puts))
				m := around(t, 0, text)
				m.Pages, m.Most = memory[0], memory[1]
				want := -1
				if m.Pages == -1 {
					want = places(ahead) + d.takes
				}
				if got := impl.FaultAt(m, 0); got != want || impl.ModuleOk(m) != (want == -1) {
					t.Errorf("with Pages %d FaultAt of %q is %d, ModuleOk isn't %v", m.Pages, text, got, want == -1)
				}
			}
		}
	}
}

// Functions are there, imports first, up to their number.
func TestFunctionsThatAreThere(t *testing.T) {
	for imports := range 4 {
		for funcs := 1; funcs < 4; funcs++ {
			m := impl.Module{Sigs: []impl.Sig{{}}, Imports: times(impl.Import{}, imports), Funcs: times(impl.Func{}, funcs), Pages: -1, Most: -1}
			for _, index := range indexes() {
				m.Funcs[funcs-1].Body = bodyOf(t, "nop;call "+strconv.Itoa(index))
				want := -1
				if index >= imports+funcs {
					want = 1
				}
				if got := impl.FaultAt(m, funcs-1); got != want {
					t.Errorf("with %d imports and %d functions FaultAt at call %d is %d", imports, funcs, index, got)
				}
			}
		}
	}
}

// Each function's Sig is the one that it names; there is none below 0 and none behind the last.
func TestSigOf(t *testing.T) {
	m := around(t, 1, "i32.const 1")
	want := []impl.Sig{{Results: 1}, {Params: 1}, {Params: 2, Results: 1}, {Params: 2, Results: 1}, {Params: 3}}
	for index, sig := range want {
		if got, ok := impl.SigOf(m, index); !ok || got != sig {
			t.Errorf("SigOf %d is %v, %v, not %v", index, got, ok, sig)
		}
	}
	for _, index := range []int{-1, -2, -5, 5, 6, 1000, math.MinInt, math.MinInt + 2, math.MaxInt, 1 << 32, -1 << 32} {
		wantNoSig(t, m, index)
	}
}

func wantNoSig(t *testing.T, m impl.Module, index int) {
	t.Helper()
	if got, ok := impl.SigOf(m, index); ok || got != (impl.Sig{}) {
		t.Errorf("SigOf %d is %v, %v", index, got, ok)
	}
}

// SigOf asks of a module its form alone: bodies and exports may be wrong.
func TestSigOfWrongModules(t *testing.T) {
	m := around(t, 1, "drop")
	m.Exports = append(m.Exports, m.Exports[0])
	if got, ok := impl.SigOf(m, 3); !ok || got != (impl.Sig{Params: 2, Results: 1}) {
		t.Errorf("SigOf of a module that isn't right is %v, %v", got, ok)
	}
	m.Globals[0].Init = impl.MaxI + 1
	for index := -1; index < 7; index++ {
		wantNoSig(t, m, index)
	}
	for _, m := range []impl.Module{noMemory(), {}, {Sigs: []impl.Sig{{Params: 1}}}} {
		for index := -1; index < 3; index++ {
			wantNoSig(t, m, index)
		}
	}
	only := impl.Module{Sigs: []impl.Sig{{}, {Params: 4}}, Imports: []impl.Import{{Sig: 1}}}
	if got, ok := impl.SigOf(only, 0); !ok || got.Params != 4 {
		t.Errorf("SigOf of a module of an import alone is %v, %v", got, ok)
	}
	wantNoSig(t, only, 1)
}

// Imports are no bodies: the i of a body counts Funcs alone.
func TestFunctionsThatAreNone(t *testing.T) {
	m := around(t, 0, "")
	for _, i := range []int{math.MinInt, math.MinInt + 1, -3, -2, -1, 3, 4, 5, 1000, 1 << 32, math.MaxInt} {
		wantTold(t, m, i, -2, nil)
	}
	for i := range 3 {
		wantTold(t, m, i, -1, map[int][]int{1: {0}}[i])
	}
	wantTold(t, noMemory(), 0, -2, nil)
	wantTold(t, impl.Module{}, 0, -2, nil)
}

// Where the form isn't right, there is no fault to tell, whatever the body.
func TestFaultsOfWrongForms(t *testing.T) {
	for _, f := range fieldCases() {
		for _, n := range []int{f.least - 1, f.most + 1, math.MinInt, math.MaxInt} {
			m := wholeModule()
			f.set(&m, n)
			if impl.FormOk(m) {
				continue
			}
			for i := -1; i < 3; i++ {
				wantTold(t, m, i, -2, nil)
			}
			wantNoSig(t, m, 0)
			if impl.ModuleOk(m) {
				t.Errorf("%s %d: ModuleOk", f.what, n)
			}
		}
	}
	for _, shape := range []string{"b", "e", "s", "isse", "bse", "ib"} {
		m := around(t, 0, "")
		m.Funcs[2].Body = spelt(shape)
		for i := -1; i < 4; i++ {
			wantTold(t, m, i, -2, nil)
		}
	}
}

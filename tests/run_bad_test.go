package tests

import (
	"math"
	"testing"

	"loop.example/g00472/impl"
)

// Where there is no such function nothing is run.
func TestRunOfNoFunction(t *testing.T) {
	m := machine(t, 0, "")
	for _, index := range []int{math.MinInt, -1 << 32, -1<<32 + 3, -4, -1, 6, 7, 59, 60, 1000, 1<<32 + 3, math.MaxInt} {
		for _, args := range [][]int{nil, {1}, {1, 2}} {
			wantRun(t, m, index, args, []int{1}, 99, bad)
		}
	}
	wantRun(t, m, 5, nil, nil, 99, leaving(done(0, 4), 6, -5))
	wantRun(t, m, 4, []int{3, 2}, nil, 99, leaving(done(1, 3), 5, -5))
	for _, empty := range []impl.Module{{}, noMemory()} {
		for _, index := range []int{-1, 0, 1} {
			wantRun(t, empty, index, nil, nil, 99, bad)
		}
		if r := impl.RunMain(empty, nil, 99); !whole(r, bad) {
			t.Errorf("RunMain of an empty module is %+v", r)
		}
	}
}

// There are just as many args as Params.
func TestRunWithOtherArgs(t *testing.T) {
	for params := range 5 {
		m := alone(t, impl.Sig{Params: params, Results: 1}, "i32.const 3")
		for count := range 8 {
			want := bad
			if count == params {
				want = done(3, 1)
			}
			wantRun(t, m, 0, times(1, count), nil, 9, want)
			wantRun(t, m, 0, times(1, count), times(1, params), 9, want)
		}
	}
	most := alone(t, impl.Sig{Params: impl.MaxLocals, Results: 1}, "i32.const 3")
	wantRun(t, most, 0, times(1, impl.MaxLocals), nil, 9, done(3, 1))
	wantRun(t, most, 0, times(1, impl.MaxLocals-1), nil, 9, bad)
	wantRun(t, most, 0, times(1, impl.MaxLocals+1), nil, 9, bad)
	m := machine(t, 0, "")
	wantRun(t, m, 0, []int{1}, []int{1}, 9, bad)
	wantRun(t, m, 1, nil, []int{1}, 9, bad)
	wantRun(t, m, 1, []int{1, 2}, []int{1}, 9, bad)
	wantRun(t, m, 2, []int{1}, []int{1}, 9, bad)
}

// wrongModules: main could be run in each, but something in it isn't right.
func wrongModules(t *testing.T) map[string]impl.Module {
	l := map[string]func(m *impl.Module){
		"another body isn't right":        func(m *impl.Module) { m.Funcs[1].Body = nil },
		"the last body isn't right":       func(m *impl.Module) { m.Funcs[2].Body = bodyOf(t, "drop") },
		"main's own body isn't right":     func(m *impl.Module) { m.Funcs[0].Body = bodyOf(t, "nop;i32.const 1") },
		"what is never reached isn't":     func(m *impl.Module) { m.Funcs[0].Body = bodyOf(t, "return;br 1") },
		"a begin without end":             func(m *impl.Module) { m.Funcs[0].Body = bodyOf(t, "nop;block 0") },
		"an instruction that isn't known": func(m *impl.Module) { m.Funcs[0].Body = []impl.Ins{{Op: 7}} },
		"two exports of one name":         func(m *impl.Module) { m.Exports = append(m.Exports, impl.Export{Name: "main", Index: 3}) },
		"an export of nothing":            func(m *impl.Module) { m.Exports = append(m.Exports, impl.Export{Name: "f", Index: 6}) },
		"Data without a memory":           func(m *impl.Module) { m.Pages, m.Data = -1, []impl.Data{{}} },
		"three pages":                     func(m *impl.Module) { m.Pages = 3 },
		"Most below Pages":                func(m *impl.Module) { m.Most = 0 },
		"a global's Init is no number":    func(m *impl.Module) { m.Globals[1].Init = impl.MaxI + 1 },
		"a name that is no text":          func(m *impl.Module) { m.Imports[0].Mod = "\xff" },
		"a Sig with two Results":          func(m *impl.Module) { m.Sigs[4].Results = 2 },
		"a Sig that isn't there":          func(m *impl.Module) { m.Imports[2].Sig = 5 },
		"Data of 2001 bytes":              func(m *impl.Module) { m.Data = []impl.Data{{Bytes: make([]byte, 2001)}} },
		"no Sigs":                         func(m *impl.Module) { m.Sigs = nil },
	}
	out := map[string]impl.Module{}
	for what, change := range l {
		m := machine(t, 0, "nop")
		change(&m)
		out[what] = m
	}
	return out
}

func TestRunOfWrongModules(t *testing.T) {
	for what, m := range wrongModules(t) {
		if impl.ModuleOk(m) {
			t.Errorf("%s: ModuleOk is true", what)
		}
		for index := -1; index <= 6; index++ {
			for _, args := range [][]int{nil, {1}, {1, 2}} {
				if r := impl.Run(m, index, args, []int{1, 2}, 99); !whole(r, bad) {
					t.Errorf("%s: Run at %d is %+v", what, index, r)
				}
			}
		}
		if r := impl.RunMain(m, []int{1, 2}, 99); !whole(r, bad) {
			t.Errorf("%s: RunMain is %+v", what, r)
		}
	}
}

// mains: Exports, and which function RunMain runs; -1 for none.
func TestRunMainFindsMain(t *testing.T) {
	for k, c := range []struct {
		exports []impl.Export
		want    int
	}{
		{nil, -1},
		{[]impl.Export{{Name: "main", Index: 3}}, 3},
		{[]impl.Export{{Name: "main", Index: 5}}, 5},
		{[]impl.Export{{Name: "main", Index: 0}}, 0},
		{[]impl.Export{{Name: "main", Index: 2}}, 2},
		{[]impl.Export{{Name: "a", Index: 5}, {Name: "main", Index: 3}}, 3},
		{[]impl.Export{{Name: "main", Index: 5}, {Name: "a", Index: 3}}, 5},
		{[]impl.Export{{Name: "a", Kind: 2}, {Name: "b", Kind: 3}, {Name: "main", Index: 5}}, 5},
		{[]impl.Export{{Name: "Main", Index: 3}}, -1},
		{[]impl.Export{{Name: "main ", Index: 3}, {Name: "mai", Index: 3}, {Name: "mains", Index: 3}, {Name: "", Index: 3}, {Name: "MAIN", Index: 3}}, -1},
		{[]impl.Export{{Name: "main", Kind: 2}}, -1},
		{[]impl.Export{{Name: "main", Kind: 3}}, -1},
		{[]impl.Export{{Name: "main", Kind: 3, Index: 1}}, -1},
		// With a Param or two there are too few args.
		{[]impl.Export{{Name: "main", Index: 1}}, -1},
		{[]impl.Export{{Name: "main", Index: 4}}, -1},
		// No two may have one Name, so these modules aren't right.
		{[]impl.Export{{Name: "main", Index: 3}, {Name: "main", Index: 5}}, -1},
		{[]impl.Export{{Name: "main", Kind: 2}, {Name: "main", Index: 5}}, -1},
		{[]impl.Export{{Name: "main", Index: 6}}, -1},
	} {
		m := machine(t, 1, "i32.const 1;call 1;call 0")
		m.Exports = c.exports
		for _, fuel := range []int{-1, 0, 1, 99} {
			want := bad
			if c.want >= 0 {
				want = impl.Run(m, c.want, nil, []int{8}, fuel)
			}
			if r := impl.RunMain(m, []int{8}, fuel); !whole(r, want) || (want.End == impl.EndBad) != (c.want < 0) {
				t.Errorf("case %d: RunMain with fuel %d is %+v, not %+v", k, fuel, r, want)
			}
		}
	}
}

func TestRunMainByHand(t *testing.T) {
	m := machine(t, 1, "call 0;call 1;global.get 0")
	m.Exports = []impl.Export{{Name: "a", Index: 5}, {Name: "main", Index: 3}, {Name: "b", Index: 4}}
	if r := impl.RunMain(m, []int{300}, 99); !whole(r, leaving(saying(done(5, 3), 44), 5, -5)) {
		t.Errorf("RunMain is %+v", r)
	}
	if r := impl.RunMain(m, []int{300}, 2); !whole(r, leaving(saying(ended(impl.EndFuel, 2), 44), 5, -5)) {
		t.Errorf("RunMain with fuel 2 is %+v", r)
	}
}

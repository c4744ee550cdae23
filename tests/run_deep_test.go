package tests

import (
	"math"
	"strconv"
	"strings"
	"testing"

	"loop.example/g00472/impl"
)

// A call's args are its Params in order, and its result lies on top of what lay there.
func TestCallsTakeAndPut(t *testing.T) {
	wantFlows(t, []flowCase{
		{1, "i32.const 9;i32.const 4;call 4", done(5, 6)},
		{1, "i32.const 1;i32.const 9;i32.const 4;call 4;i32.sub", done(-4, 8)},
		{1, "i32.const 1;i32.const 2;i32.const 9;i32.const 4;call 4;i32.const 3;call 4;call 4;i32.sub", done(1, 4+4+1+4+4+1)},
		{0, "call 5", leaving(done(0, 5), 6, -5)},
		{1, "i32.const 3;call 5;call 5", leaving(done(3, 11), 7, -5)},
		{1, "i32.const 3;block 1;i32.const 8;i32.const 9;call 4;end;i32.sub", done(4, 10)},
	})
}

// Each call has its own locals, from 0 on, its own stack and its own open ones.
func TestCallsAreTheirOwn(t *testing.T) {
	m := machine(t, 1, "i32.const 5;local.set 0;i32.const 1;i32.const 2;call 4;call 1;i32.const 1;i32.const 2;call 4;call 1;local.get 0")
	m.Funcs[1] = impl.Func{Sig: 3, Locals: 1, Body: bodyOf(t, "local.get 2;i32.const 1;i32.add;local.tee 2;local.set 0;local.get 0;local.get 1;i32.add")}
	wantRun(t, m, 3, nil, nil, 99, leaving(saying(done(5, 11+2*8), 3, 3), 5, -5))
	// A return and a branch leave the one function alone.
	for _, leave := range []string{"return", "br 0", "block 0;local.get 0;br 1;end", "loop 0;local.get 0;return;end"} {
		m.Funcs[0].Body = bodyOf(t, "block 1;i32.const 7;loop 1;i32.const 6;i32.const 9;call 4;br 1;end;drop;end;i32.const 10;i32.mul")
		m.Funcs[1].Body = bodyOf(t, joined("i32.const 3;i32.const 8", leave))
		if strings.Contains(leave, "local") {
			m.Funcs[1].Body = append(m.Funcs[1].Body, bodyOf(t, "drop")...)
			wantN(t, m, 3, nil, 60)
			continue
		}
		wantN(t, m, 3, nil, 80)
	}
}

// down: a module whose function 6 calls itself as often as its Param says,
// does what stands at the bottom there, and calls function 5 on each way back.
func down(t *testing.T, bottom string) impl.Module {
	t.Helper()
	m := machine(t, 0, "")
	m.Sigs = append(m.Sigs, impl.Sig{Params: 1})
	m.Funcs = append(m.Funcs, impl.Func{Sig: 5, Body: bodyOf(t, joined("local.get 0;if 0;local.get 0;i32.const 1;i32.sub;call 6;else", bottom, "end;call 5"))})
	return m
}

// MaxDeep calls may be open, the first one among them, and not one more.
func TestMostCallsOpen(t *testing.T) {
	// Each call but the last adds 1 to the global when it comes back: 7, 1 and 5 steps; the last one 3, 1 and 5.
	for _, n := range []int{0, 1, 2, 50, 98} {
		wantRun(t, down(t, ""), 6, []int{n}, nil, 20000, leaving(done(0, n*12+8), 5+n+1, -5))
	}
	last := impl.MaxDeep - 1
	// The call of function 5 at the bottom would be one too many.
	wantRun(t, down(t, ""), 6, []int{last}, nil, 20000, leaving(ended(impl.EndDeep, last*6+4), 5, -5))
	wantRun(t, down(t, ""), 6, []int{last + 1}, nil, 20000, leaving(ended(impl.EndDeep, (last+1)*6), 5, -5))
	wantRun(t, down(t, ""), 6, []int{-1}, nil, 20000, leaving(ended(impl.EndDeep, (last+1)*6), 5, -5))
	// Imports are called at the bottom too.
	for _, n := range []int{last - 1, last} {
		m := down(t, "call 0;call 1")
		m.Funcs[3].Body = m.Funcs[3].Body[:len(m.Funcs[3].Body)-1]
		wantRun(t, m, 6, []int{n}, []int{77}, 20000, leaving(saying(done(0, 6*n+5+n), 77), 5, -5))
		m = down(t, "call 2")
		wantRun(t, m, 6, []int{n}, nil, 20000, leaving(trapped(impl.WhyLink, 6*n+3), 5, -5))
	}
}

// What ended is no longer open, however many were called.
func TestManyCallsOneAfterTheOther(t *testing.T) {
	text := "loop 0;call 5;local.get 0;i32.const 1;i32.add;local.tee 0;i32.const 300;i32.lt_s;br_if 0;end"
	wantMain(t, 0, text, nil, leaving(done(0, 2+300*12), 305, -5))
}

// Two functions that call each other, and main that calls itself.
func TestRoundsOfCalls(t *testing.T) {
	m := machine(t, 0, "call 4")
	m.Sigs[3] = impl.Sig{}
	m.Funcs[1].Body = bodyOf(t, "call 5;call 3")
	// Of the fifty pairs that are open the last one's call of function 5 is one too many.
	wantRun(t, m, 3, nil, nil, 20000, leaving(ended(impl.EndDeep, 49*7+2), 54, -5))
	wantAsPlayed(t, m, 3, nil, nil, 20000)
	wantMain(t, 0, "global.get 0;i32.const 1;i32.add;global.set 0;call 3", nil, leaving(ended(impl.EndDeep, 500), 105, -5))
	wantMain(t, 0, "call 3", nil, ended(impl.EndDeep, 100))
	// At the call that would be one too many the fuel is asked first.
	wantRun(t, machine(t, 0, "call 3"), 3, nil, nil, 99, leaving(ended(impl.EndFuel, 99), 5, -5))
	wantRun(t, machine(t, 0, "call 3"), 3, nil, nil, 100, leaving(ended(impl.EndDeep, 100), 5, -5))
}

func TestFactorialsAndSums(t *testing.T) {
	m := alone(t, impl.Sig{Params: 1, Results: 1}, "local.get 0;i32.eqz;if 1;i32.const 1;else;local.get 0;local.get 0;i32.const 1;i32.sub;call 0;i32.mul;end")
	want := 1
	for n := range 99 {
		want = wantWrap(want * max(n, 1))
		wantN(t, m, 0, []int{n}, want)
	}
	fib := alone(t, impl.Sig{Params: 1, Results: 1}, "local.get 0;i32.const 2;i32.lt_s;if 1;local.get 0;else;local.get 0;i32.const 1;i32.sub;call 0;local.get 0;i32.const 2;i32.sub;call 0;i32.add;end")
	for n, want := range []int{0, 1, 1, 2, 3, 5, 8, 13, 21, 34, 55, 89, 144} {
		wantN(t, fib, 0, []int{n}, want)
	}
}

// `io` `get` gives what comes in, one after the other, and -1 behind the last.
func TestGetting(t *testing.T) {
	text := "call 0;call 1;call 0;call 1;call 0"
	wantMain(t, 1, text, []int{1, 2, 3}, saying(done(3, 5), 1, 2))
	wantMain(t, 1, text, []int{1, 2, 3, 4}, saying(done(3, 5), 1, 2))
	wantMain(t, 1, text, []int{1, 2}, saying(done(-1, 5), 1, 2))
	wantMain(t, 1, text, []int{1}, saying(done(-1, 5), 1, 255))
	wantMain(t, 1, text, nil, saying(done(-1, 5), 255, 255))
	wantMain(t, 1, text, []int{0, -1, 0}, saying(done(0, 5), 0, 255))
	for _, n := range samples() {
		wantMain(t, 1, "call 0", []int{n}, done(wantWrap(n), 1))
	}
	wantMain(t, 1, "call 0;i32.const 0;i32.eq", []int{1 << 32}, done(1, 3))
	// What a function called deeper takes is gone.
	m := machine(t, 1, "call 5;call 0")
	m.Funcs[2].Body = bodyOf(t, "call 0;global.set 0")
	wantRun(t, m, 3, nil, []int{8, 9}, 99, leaving(done(9, 4), 8, -5))
}

// `io` `put` puts the lowest byte of its Param behind the others.
func TestPutting(t *testing.T) {
	for n, want := range map[int]int{0: 0, 1: 1, 255: 255, 256: 0, 257: 1, 300: 44, -1: 255, -2: 254, -256: 0, -257: 255, impl.MaxI: 255, impl.MinI: 0, impl.MinI + 3: 3} {
		wantMain(t, 0, "i32.const "+strconv.Itoa(n)+";call 1", nil, saying(done(0, 2), want))
		wantRun(t, machine(t, 0, ""), 1, []int{n}, nil, 0, leaving(saying(done(0, 0), want), 5, -5))
	}
	wantMain(t, 1, "i32.const 4;i32.const 3;call 1;i32.const 2;call 1;i32.const 2;call 1", nil, saying(done(4, 7), 3, 2, 2))
	text := "loop 0;local.get 0;call 1;local.get 0;i32.const 1;i32.add;local.tee 0;i32.const 600;i32.lt_s;br_if 0;end"
	r := impl.RunMain(machine(t, 0, text), nil, 20000)
	if len(r.Out) != 600 || r.End != impl.EndDone {
		t.Errorf("%d numbers are told, and the end is %d", len(r.Out), r.End)
	}
	for k, n := range r.Out {
		if n != k%256 {
			t.Errorf("number %d is %d", k, n)
		}
	}
}

// An import itself is run too; no instruction is begun then, so it needs no fuel.
func TestImportsThemselves(t *testing.T) {
	m := machine(t, 0, "")
	for _, fuel := range []int{math.MinInt, -1, 0, 1, math.MaxInt} {
		wantRun(t, m, 0, nil, []int{7, 8}, fuel, leaving(done(7, 0), 5, -5))
		wantRun(t, m, 0, nil, []int{1<<32 - 7}, fuel, leaving(done(-7, 0), 5, -5))
		wantRun(t, m, 0, nil, nil, fuel, leaving(done(-1, 0), 5, -5))
		wantRun(t, m, 1, []int{300}, nil, fuel, leaving(saying(done(0, 0), 44), 5, -5))
		wantRun(t, m, 1, []int{math.MaxInt}, nil, fuel, leaving(saying(done(0, 0), 255), 5, -5))
		wantRun(t, m, 2, nil, nil, fuel, leaving(trapped(impl.WhyLink, 0), 5, -5))
	}
	m.Exports[0].Index = 0
	if r := impl.RunMain(m, []int{-9}, 0); !whole(r, leaving(done(-9, 0), 5, -5)) {
		t.Errorf("main is io get: %+v", r)
	}
	m.Exports[0].Index = 2
	if r := impl.RunMain(m, []int{-9}, 0); !whole(r, leaving(trapped(impl.WhyLink, 0), 5, -5)) {
		t.Errorf("main is linked to nothing: %+v", r)
	}
	m.Exports[0].Index = 1
	if r := impl.RunMain(m, []int{-9}, 0); !whole(r, bad) {
		t.Errorf("main has a Param: %+v", r)
	}
}

// linked: a module with one import, number 0, and a function 1 that calls it with as much as it takes.
func linked(t *testing.T, mod, name string, sig impl.Sig) impl.Module {
	t.Helper()
	return impl.Module{
		Sigs:    []impl.Sig{sig, {}},
		Imports: []impl.Import{{Mod: mod, Name: name}},
		Funcs:   []impl.Func{{Sig: 1, Body: bodyOf(t, joined(values(sig.Params), "call 0", drops(sig.Results)))}},
		Pages:   -1,
		Most:    -1,
	}
}

// An import is linked by both its names and its Sig; a call of any other ends the run.
func TestWhatIsLinked(t *testing.T) {
	names := []string{"io", "get", "put", "", "Io", "IO", "Get", "GET", "gets", "ge", "puts", "pu", "i", "io ", "env", "io.get", "é"}
	for _, mod := range names {
		for _, name := range names {
			for _, sig := range []impl.Sig{{}, {Results: 1}, {Params: 1}, {Params: 1, Results: 1}, {Params: 2}, {Params: 2, Results: 1}, {Params: 60}} {
				wantLinked(t, linked(t, mod, name, sig), sig)
			}
		}
	}
}

func wantLinked(t *testing.T, m impl.Module, sig impl.Sig) {
	t.Helper()
	i := m.Imports[0]
	itself, called := trapped(impl.WhyLink, 0), trapped(impl.WhyLink, sig.Params+1)
	if i.Mod == "io" && i.Name == "get" && sig == (impl.Sig{Results: 1}) {
		itself, called = done(12, 0), done(0, 2)
	}
	if i.Mod == "io" && i.Name == "put" && sig == (impl.Sig{Params: 1}) {
		itself, called = saying(done(0, 0), 7), saying(done(0, 2), 7)
	}
	wantRun(t, m, 0, times(7, sig.Params), []int{12}, 9, itself)
	wantRun(t, m, 1, nil, []int{12}, 99, called)
	wantRun(t, m, 0, times(7, sig.Params+1), []int{12}, 9, bad)
}

// The same import may come more than once, in any order; what is in and out is one.
func TestImportsTwice(t *testing.T) {
	m := machine(t, 0, "call 0;call 1;call 3;call 2;call 0;call 2")
	m.Imports = []impl.Import{m.Imports[0], m.Imports[1], m.Imports[1], m.Imports[0]}
	wantRun(t, m, 4, nil, []int{1, 2, 3}, 99, leaving(saying(done(0, 6), 1, 2, 3), 5, -5))
}

package tests

import (
	"math"
	"testing"

	"loop.example/g00472/impl"
)

// wantGrows: b, with more fuel, tells all that a told, and the same where a didn't end for lack of fuel.
func wantGrows(t *testing.T, what string, a, b impl.Result, less, more int) {
	t.Helper()
	if !impl.Prefix(a, b) || b.Steps < a.Steps {
		t.Errorf("with fuel %d %+v, with %d %+v, of %s", less, a, more, b, what)
	}
	if a.End != impl.EndFuel && !whole(a, b) {
		t.Errorf("with fuel %d it ends with %+v, with %d with %+v, of %s", less, a, more, b, what)
	}
	if a.End == impl.EndFuel && (a.Steps != less || a.N != 0 || a.Why != 0) {
		t.Errorf("without the fuel it ends with %+v, not with %d steps, of %s", a, less, what)
	}
}

// More fuel changes nothing of what was told, at each fuel up to what is needed and beyond (P3).
func TestMoreFuel(t *testing.T) {
	next := spread()
	h := howEnded{}
	for range 300 {
		m := makeModule(next)
		most := impl.RunMain(m, []int{4, 1}, 300)
		before := impl.RunMain(m, []int{4, 1}, 0)
		for fuel := 1; fuel <= most.Steps+2; fuel++ {
			now := impl.RunMain(m, []int{4, 1}, fuel)
			wantGrows(t, textsOf(m)[0], before, now, fuel-1, fuel)
			if (now.End == impl.EndFuel) != (fuel < most.Steps || most.End == impl.EndFuel) {
				t.Errorf("with fuel %d %+v, with 300 %+v, of %s", fuel, now, most, textsOf(m))
			}
			before = now
			h.add(now)
		}
		if t.Failed() {
			return
		}
	}
	if len(h) < 6 {
		t.Errorf("only %d ways to end: these modules tell too little", len(h))
	}
}

// Fuel far apart, for longer runs.
func TestMuchMoreFuel(t *testing.T) {
	next := spread()
	for range 800 {
		m := makeModule(next)
		fuels := []int{math.MinInt, -1, 0, 1, 2, 7, 50, 333, 1000, 5000, 19999, 20000, 20001, math.MaxInt}
		before := impl.RunMain(m, []int{4, 1}, fuels[0])
		for k, fuel := range fuels[1:] {
			now := impl.RunMain(m, []int{4, 1}, fuel)
			wantGrows(t, textsOf(m)[0], before, now, max(0, min(fuels[k], impl.MaxFuel)), fuel)
			before = now
		}
	}
}

// Just as much fuel as there are instructions is enough; with one less the last isn't begun.
func TestFuelByHand(t *testing.T) {
	m := machine(t, 1, "i32.const 3;call 1;i32.const 9;global.set 0;i32.const 4;call 1;i32.const 6")
	for fuel, want := range []impl.Result{
		leaving(ended(impl.EndFuel, 0), 5, -5),
		leaving(ended(impl.EndFuel, 1), 5, -5),
		leaving(saying(ended(impl.EndFuel, 2), 3), 5, -5),
		leaving(saying(ended(impl.EndFuel, 3), 3), 5, -5),
		leaving(saying(ended(impl.EndFuel, 4), 3), 9, -5),
		leaving(saying(ended(impl.EndFuel, 5), 3), 9, -5),
		leaving(saying(ended(impl.EndFuel, 6), 3, 4), 9, -5),
		leaving(saying(done(6, 7), 3, 4), 9, -5),
		leaving(saying(done(6, 7), 3, 4), 9, -5),
	} {
		wantRun(t, m, 3, nil, nil, fuel, want)
		if r := impl.RunMain(m, nil, fuel); !whole(r, want) {
			t.Errorf("RunMain with fuel %d is %+v, not %+v", fuel, r, want)
		}
	}
	for _, fuel := range []int{math.MinInt, math.MinInt + 7, -1 << 32, -20000, -7, -1} {
		wantRun(t, m, 3, nil, nil, fuel, leaving(ended(impl.EndFuel, 0), 5, -5))
	}
	// A body without instructions needs none.
	wantRun(t, machine(t, 0, ""), 3, nil, nil, -1, leaving(done(0, 0), 5, -5))
	wantRun(t, machine(t, 0, ""), 3, nil, nil, 0, leaving(done(0, 0), 5, -5))
	// A last instruction that ends the run otherwise is begun too.
	wantRun(t, machine(t, 0, "nop;unreachable"), 3, nil, nil, 1, leaving(ended(impl.EndFuel, 1), 5, -5))
	wantRun(t, machine(t, 0, "nop;unreachable"), 3, nil, nil, 2, leaving(trapped(impl.WhyTrap, 2), 5, -5))
	// What comes back from a call needs none, what is behind it does.
	wantRun(t, machine(t, 0, "call 5"), 3, nil, nil, 5, leaving(done(0, 5), 6, -5))
	wantRun(t, machine(t, 0, "call 5"), 3, nil, nil, 4, leaving(ended(impl.EndFuel, 4), 5, -5))
	wantRun(t, machine(t, 0, "call 5;nop"), 3, nil, nil, 5, leaving(ended(impl.EndFuel, 5), 6, -5))
	// Nor does what is behind a branch to the end; an end that is come to does.
	wantRun(t, machine(t, 0, "block 0;br 0;end"), 3, nil, nil, 2, leaving(done(0, 2), 5, -5))
	wantRun(t, machine(t, 0, "block 0;nop;end"), 3, nil, nil, 2, leaving(ended(impl.EndFuel, 2), 5, -5))
	wantRun(t, machine(t, 0, "i32.const 1;if 0;nop;else;end"), 3, nil, nil, 3, leaving(ended(impl.EndFuel, 3), 5, -5))
	wantRun(t, machine(t, 0, "i32.const 1;if 0;nop;else;end"), 3, nil, nil, 4, leaving(done(0, 4), 5, -5))
}

// rounds: a body that takes count steps, most of them in a loop.
func rounds(count int) string {
	const ahead, each = 3, 8
	times := (count - ahead - 2) / each
	rest := count - ahead - 1 - times*each
	return joined("i32.const "+impl.NumText(times), "local.set 0;loop 0", "nop;nop;nop;local.get 0;i32.const 1;i32.sub;local.tee 0;br_if 0;end", many("nop", rest))
}

// MaxFuel instructions may be begun, and not one more, however much fuel is given.
func TestMostFuel(t *testing.T) {
	for _, fuel := range []int{20000, 20001, 30000, 1 << 32, 1<<32 + 5, math.MaxInt} {
		for _, count := range []int{19999, 20000} {
			wantRun(t, machine(t, 0, rounds(count)), 3, nil, nil, fuel, leaving(done(0, count), 5, -5))
		}
		for _, count := range []int{20001, 20002, 40000} {
			wantRun(t, machine(t, 0, rounds(count)), 3, nil, nil, fuel, leaving(ended(impl.EndFuel, 20000), 5, -5))
		}
		wantRun(t, machine(t, 0, "loop 0;br 0;end"), 3, nil, nil, fuel, leaving(ended(impl.EndFuel, 20000), 5, -5))
	}
	wantRun(t, machine(t, 0, rounds(20000)), 3, nil, nil, 19999, leaving(ended(impl.EndFuel, 19999), 5, -5))
	wantRun(t, machine(t, 0, rounds(19999)), 3, nil, nil, 19999, leaving(done(0, 19999), 5, -5))
}

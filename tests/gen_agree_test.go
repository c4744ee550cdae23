package tests

import (
	"math"
	"strings"
	"testing"

	"loop.example/g00472/impl"
)

// wantSideBySide (P1): what Mean tells of p with the greatest fuel agrees with
// what Execute tells of its bytes with this fuel, which never runs badly and traps
// for a bound or a division alone. Where both come to their end it leaves the same Globals.
func wantSideBySide(t *testing.T, what string, p impl.Source, b []byte, in []int, fuel int) impl.Result {
	t.Helper()
	means, does := impl.Mean(p, in, impl.MaxFuel), impl.Execute(b, in, fuel)
	if !impl.Agree(means, does) || !impl.Agree(does, means) || !wantAgree(means, does) {
		t.Errorf("with %v and fuel %d Execute is %+v, and Mean %+v, of %.600s", in, fuel, does, means, what)
	}
	if does.End == impl.EndBad || does.End == impl.EndTrap && does.Why != impl.WhyZero && does.Why != impl.WhyOver && does.Why != whyBound || does.Steps > max(0, fuel) {
		t.Errorf("with %v and fuel %d Execute is %+v, of %.600s", in, fuel, does, what)
	}
	if does.End != impl.EndFuel && means.End != impl.EndFuel {
		means.Steps = does.Steps
		if !whole(means, does) {
			t.Errorf("with %v and fuel %d Execute is %+v, and Mean %+v, of %.600s", in, fuel, does, means, what)
		}
	}
	return does
}

// someFuels: fuels below 0, small and great ones, and those about the steps.
func someFuels(steps int) []int {
	l := []int{math.MinInt, -1, 0, 1, 2, 3, 5, 10, 20, 40, 100, 300, 1000, 19999, 20000, 20001, math.MaxInt}
	return append(l, steps/2, steps-1, steps, steps+1)
}

// wantModuleDoes (P1): the module of the text, which may be too great to have one, does what its program means.
func wantModuleDoes(t *testing.T, s string, p impl.Source, in []int) {
	t.Helper()
	b, code, _ := impl.Compile(s)
	if code == noModule {
		return
	}
	does := wantSideBySide(t, s, p, b, in, impl.MaxFuel)
	for _, fuel := range []int{0, 1, does.Steps / 2, does.Steps - 1, does.Steps} {
		wantSideBySide(t, s, p, b, in, fuel)
	}
}

// wantDoes (P1): the text ends so with the greatest fuel, its program and its module alike, and with less fuel they agree.
func wantDoes(t *testing.T, s string, in []int, end, why, n int, out ...int) {
	t.Helper()
	p, b := sourceOf(t, s), bytesOf(t, s)
	want := impl.Result{End: end, Why: why, N: n, Out: out}
	does := wantSideBySide(t, s, p, b, in, impl.MaxFuel)
	if means := impl.Mean(p, in, impl.MaxFuel); !impl.Same(does, want) || !impl.Same(means, want) {
		t.Errorf("Execute is %+v and Mean %+v, not %+v, of %s", does, means, want, s)
	}
	for _, fuel := range someFuels(does.Steps) {
		wantSideBySide(t, s, p, b, in, fuel)
	}
}

// Where it ends: in an index, in a division, at any place of a statement or an expression.
func TestTrapsOfPrograms(t *testing.T) {
	for _, trap := range []struct {
		expression string
		why        int
	}{
		{"a[3]", whyBound}, {"a[-1]", whyBound}, {"a[g - 2147483647 - 1]", whyBound}, {"b[2]", whyBound}, {"(1 / g)", impl.WhyZero}, {"(5 % (g * 3))", impl.WhyZero},
		{"((g - 2147483647 - 1) / -1)", impl.WhyOver}, {"a[a[1 / g]]", impl.WhyZero}, {"(1 / a[9])", whyBound},
	} {
		for _, frame := range []string{
			"@;", "put(@);", "g = @;", "h = @;", "var x = @;", "return @;", "a[0] = @;", "a[@] = 7;", "b[a[@]] = 7;", "if (@) { put(8); } else { put(9); }", "while (@) { put(8); }",
			"id(@);", "two(1, @);", "two(@, say(2));", "two(say(2), @);", "id(id(@));", "say(say(@));", "put(put(@));",
			"1 && @;", "@ && 1;", "0 || @;", "@ || 1;", "1 && (0 || @);", "0 || 1 && @;", "put(1 && @);", "if (1 && @) { }", "while (0 || @) { }", "id(1 && @);", "1 && id(@);",
			"-@;", "!@;", "~@;", "1 + @;", "@ + say(2);", "say(2) - @;", "@ == 1;", "1 << @;", "a[@ + 1];", "size(a) + @;",
			"if (1) { @; } else { put(9); }", "if (0) { put(9); } else { @; }", "while (1) { @; }", "if (1) { while (1) { if (1) { put(@); } } }",
		} {
			// Of what is done ahead of the trap, `say(2)` alone tells something.
			ahead, _, _ := strings.Cut(frame, "@")
			out := append([]int{4}, times(2, strings.Count(ahead, "say(2)"))...)
			s := meanHeads + "func main() { put(4); " + strings.ReplaceAll(frame, "@", trap.expression) + " put(5); }"
			wantDoes(t, s, nil, impl.EndTrap, trap.why, 0, out...)
		}
		// Where it isn't done it doesn't trap.
		for _, frame := range []string{"0 && @;", "1 || @;", "1 || 0 && @;", "0 && (1 || @);", "if (0) { @; }", "if (1) { } else { @; }", "while (0) { @; }", "if (1 || @) { }", "if (0) { return @; }"} {
			s := meanHeads + "func main() { put(4); " + strings.ReplaceAll(frame, "@", trap.expression) + " put(5); return 6; }"
			wantDoes(t, s, nil, impl.EndDone, 0, 6, 4, 5)
		}
		wantDoes(t, meanHeads+"func main() { put(4); return 6; "+trap.expression+"; }", nil, impl.EndDone, 0, 6, 4)
		wantDoes(t, meanHeads+"func f() { put(7); return "+trap.expression+"; } func main() { put(4); two(say(2), f()); put(5); }", nil, impl.EndTrap, trap.why, 0, 4, 2, 7)
	}
}

// Each index about the ends of an array of each of some sizes, of the first array and of a later one.
func TestIndexesOfPrograms(t *testing.T) {
	for _, size := range []int{1, 2, 3, 8, 100, 7000} {
		for _, name := range []string{"a", "b"} {
			s := "int a[" + impl.NumText(size) + "]; int z[1]; int b[" + impl.NumText(min(size, 900)) + "]; int y[1]; func main() { var i = get(); y[0] = 8; z[0] = 9; @[i] = 5; put(z[0]); put(y[0]); return @[i]; }"
			s = strings.ReplaceAll(s, "@", name)
			cells := size
			if name == "b" {
				cells = min(size, 900)
			}
			for _, index := range append(edges(), 0, 1, cells-2, cells-1, cells, cells+1, 2*cells, 1<<30, 1<<30-1, 1<<30+1, 1<<31, 1<<32, 1<<32+cells-1, -cells) {
				if at := wantWrap(index); at >= 0 && at < cells {
					wantDoes(t, s, []int{index}, impl.EndDone, 0, 5, 9, 8)
				} else {
					wantDoes(t, s, []int{index}, impl.EndTrap, whyBound, 0)
				}
			}
		}
	}
}

// Calls that lie too deep, also within arguments and where the fuel is spent first.
func TestDeepProgramsAgree(t *testing.T) {
	wantDoes(t, "func main() { main(); }", nil, impl.EndDeep, 0, 0)
	wantDoes(t, "func f(x) { put(x); return f(x + 1); } func main() { return f(1); }", nil, impl.EndDeep, 0, 0, upFrom0(100)[1:]...)
	wantDoes(t, "func f(x) { return 1 && f(x); } func main() { return f(1); }", nil, impl.EndDeep, 0, 0)
	wantDoes(t, "func f(x) { return 0 || f(f(x)); } func main() { put(3); return f(1); }", nil, impl.EndDeep, 0, 0, 3)
	wantDoes(t, "func f(x) { return g(x, f(x)); } func g(x, y) { put(x); } func main() { put(3); while (1) { f(2); } }", nil, impl.EndDeep, 0, 0, 3)
	for _, in := range []int{0, 1, 97, 98} {
		wantDoes(t, "func f(n) { if (n == 0) { return 0; } return f(n - 1) + 1; } func main() { return f(get()); }", []int{in}, impl.EndDone, 0, in)
	}
	for _, in := range []int{99, 100, 1000} {
		wantDoes(t, "func f(n) { if (n == 0) { return 0; } return f(n - 1) + 1; } func main() { return f(get()); }", []int{in}, impl.EndDeep, 0, 0)
	}
	// With as many calls open as go, what traps traps, and what is no call goes.
	bottom := "int a[2]; func id(x) { return x; } func f(n) { if (n == 0) { return @; } return f(n - 1); } func main() { return f(98); }"
	at := func(expression string) string { return strings.ReplaceAll(bottom, "@", expression) }
	wantDoes(t, at("put(get()) + size(a)"), []int{6}, impl.EndDone, 0, 2, 6)
	wantDoes(t, at("id(1)"), nil, impl.EndDeep, 0, 0)
	wantDoes(t, at("id(1 / 0)"), nil, impl.EndTrap, impl.WhyZero, 0)
	wantDoes(t, at("id(a[2])"), nil, impl.EndTrap, whyBound, 0)
	wantDoes(t, at("id(put(7))"), nil, impl.EndDeep, 0, 0, 7)
	wantDoes(t, at("0 && id(1)"), nil, impl.EndDone, 0, 0)
}

// Programs that never end, and such as end with one fuel and not with the other one.
func TestLongProgramsAgree(t *testing.T) {
	for _, s := range []string{
		"func main() { while (1) { } }", "func main() { while (1) { put(get()); } }", "int g; func main() { while (g >= 0 || 1) { g = g + 1; put(g); } }",
		"func f() { while (1) { put(1); } } func main() { put(2); f(); put(3); }", "int a[2]; func main() { while (a[0] == a[1]) { a[0] = a[0] + 1; a[1] = a[1] + 1; put(a[0] * 7); } }",
		"func f(x) { while (x) { x = x - 1; put(x); } return 1; } func main() { while (f(5)) { } }",
	} {
		p, b := sourceOf(t, s), bytesOf(t, s)
		for _, fuel := range someFuels(500) {
			if got := wantSideBySide(t, s, p, b, []int{1, 2, 3}, fuel); got.End != impl.EndFuel {
				t.Errorf("Execute with fuel %d is %+v, of %s", fuel, got, s)
			}
		}
	}
	// The module has more to do than the program has nodes, or less.
	for _, c := range []struct {
		s           string
		means, does int
	}{
		{"func main() { var i = 0; while (i < 1600) { i = i + 1; put(i); } return i; }", impl.EndDone, impl.EndFuel},
		{"func main() { var i = 0; while (i < 1200) { i = i + 1; put(i); } return i; }", impl.EndDone, impl.EndDone},
		{"func f() { return 1; } func main() { var i = 0; while (i < 4400) { i = i" + strings.Repeat(" + f()", 40) + "; put(i); } return i; }", impl.EndFuel, impl.EndDone},
		{"func main() { while (1) { } return 5; }", impl.EndFuel, impl.EndFuel},
	} {
		p, b := sourceOf(t, c.s), bytesOf(t, c.s)
		means, does := impl.Mean(p, nil, impl.MaxFuel), wantSideBySide(t, c.s, p, b, nil, impl.MaxFuel)
		if means.End != c.means || does.End != c.does {
			t.Errorf("Mean is %s, Execute %s, of %s", short(means), short(does), c.s)
		}
		for _, fuel := range someFuels(does.Steps) {
			wantSideBySide(t, c.s, p, b, nil, fuel)
		}
	}
}

// P1 of many right programs, with inputs and fuels.
func TestManyProgramsAgree(t *testing.T) {
	next := spread()
	h := howEnded{}
	ask := func(p impl.Source, in []int) {
		text := impl.PrintSource(p)
		b := bytesOf(t, text)
		for _, fuel := range []int{next(60), next(400), 3000, 20000} {
			h.add(wantSideBySide(t, text, p, b, in, fuel))
		}
	}
	manyLively(900, ask)
	manyRight(200, func(p impl.Source) {
		ask(p, nil)
		ask(p, []int{impl.MinI, 1<<40 + 3, -1, 1, 0, 7})
	})
	h.wantEnds(t, 100)
}

// P3 of modules that are compiled: at each fuel up to what is needed what was told grows.
func TestMoreFuelForExecute(t *testing.T) {
	manyLively(100, func(p impl.Source, in []int) {
		text := impl.PrintSource(p)
		b := bytesOf(t, text)
		const enough = 400
		most := impl.Execute(b, in, enough)
		before := impl.Execute(b, in, 0)
		for fuel := 1; fuel <= min(most.Steps+2, enough); fuel++ {
			now := wantSideBySide(t, text, p, b, in, fuel)
			wantGrows(t, text, before, now, fuel-1, fuel)
			wantGrows(t, text, now, most, fuel, enough)
			before = now
		}
	})
}

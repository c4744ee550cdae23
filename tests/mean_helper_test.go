package tests

import (
	"math"
	"testing"

	"loop.example/g00472/impl"
)

// whyBound: the Why of an index that is out, as the chapter numbers it.
const whyBound = 6

// anySteps stands for as many as the tests' own reading tells.
const anySteps = -1

// meanHeads: what the statements of wantMainMean can name. Of steps a call of
// id takes 4, of say 7, of two 8, of none 2, of bump 8, and those of its arguments.
const meanHeads = "int g; int h; int a[3]; int b[2]; func id(x) { return x; } func say(x) { put(x); return x; } func two(x, y) { return x * 10 + y; } func none() { } func bump() { g = g + 1; return g; } "

// fuelsUpTo: some fuels below the steps, the steps, and some above.
func fuelsUpTo(steps int) []int {
	l := []int{math.MinInt, -20000, -1, steps, steps + 1, steps + 1000, 20000, math.MaxInt}
	for fuel := 0; fuel < steps; fuel += 1 + steps/60 {
		l = append(l, fuel)
	}
	return append(l, steps-1)
}

// wantMean: what Mean tells of the text with as much fuel as it needs, and that
// without that it begins as many nodes as there is fuel, and no more. At each
// of these fuels the tests' own reading has to tell the same. What the text is
// compiled to does so too. Globals that aren't told are as at first.
func wantMean(t *testing.T, s string, in []int, want impl.Result) impl.Source {
	t.Helper()
	p := sourceOf(t, s)
	if want.Steps == anySteps {
		want.Steps = wantMeant(p, in, 20000).Steps
	}
	if want.Globals == nil {
		want.Globals = times(0, len(p.Globals))
	}
	for _, fuel := range fuelsUpTo(want.Steps) {
		got := impl.Mean(p, in, fuel)
		wantAsMeant(t, s, p, in, fuel)
		switch {
		case fuel >= want.Steps && want.End != impl.EndFuel || fuel >= 20000:
			if !whole(got, want) {
				t.Errorf("Mean with %v and fuel %d is %+v, not %+v, of %.400s", in, fuel, got, want, s)
			}
		case got.End != impl.EndFuel || got.Steps != max(0, fuel) || got.N != 0 || got.Why != 0 || !impl.Prefix(got, want):
			t.Errorf("Mean with %v and fuel %d, where %d would be enough, is %+v, of %.400s", in, fuel, want.Steps, got, s)
		}
	}
	wantModuleDoes(t, s, p, in)
	return p
}

// wantMainMean: likewise of the statements in a `main` behind meanHeads.
func wantMainMean(t *testing.T, statements string, in []int, want impl.Result) {
	t.Helper()
	wantMean(t, meanHeads+"func main() { "+statements+" }", in, want)
}

// wantValue: likewise of `return`, which takes two steps itself, of the expression.
func wantValue(t *testing.T, expression string, in []int, want impl.Result) {
	t.Helper()
	if want.Steps != anySteps {
		want.Steps += 2
	}
	wantMainMean(t, "return "+expression+";", in, want)
}

// wantCells: the cells of the array at the end of the run, with as much fuel as there may be.
func wantCells(t *testing.T, s string, in []int, name string, want ...int) {
	t.Helper()
	p := sourceOf(t, s)
	got, own := impl.Cells(p, in, 20000, name), wantMeant(p, in, 20000).cells[name]
	if short(got) != short(want) || short(own) != short(want) || len(got) != len(want) {
		t.Errorf("Cells of %q with %v is %v, by the tests' own reading %v, not %v, of %.400s", name, in, short(got), short(own), short(want), s)
	}
}

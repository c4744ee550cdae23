package tests

import (
	"slices"
	"testing"

	"loop.example/g00472/impl"
)

// The Outs of what is held against each other: alike, shorter, longer, parted.
func someOuts() [][]int {
	return [][]int{nil, {}, {1}, {2}, {1, 2}, {1, 3}, {2, 1}, {1, 2, 3}, {1, 2, 3, 1, 2, 3}, {0}, {0, 0}}
}

func begin(l, of []int) bool {
	for k, n := range l {
		if k >= len(of) || of[k] != n {
			return false
		}
	}
	return true
}

// wantAgree: what Agree must tell.
func wantAgree(a, b impl.Result) bool {
	const done, trap, fuel, bad = 1, 2, 3, 4
	same := a.End == b.End && a.Why == b.Why && a.N == b.N && len(a.Out) == len(b.Out) && begin(a.Out, b.Out)
	switch {
	case a.End == bad, b.End == bad:
		return false
	case a.End == fuel && b.End == fuel:
		return begin(a.Out, b.Out) || begin(b.Out, a.Out)
	case a.End == fuel:
		return begin(a.Out, b.Out)
	case b.End == fuel:
		return begin(b.Out, a.Out)
	}
	return same
}

func wantAgreed(t *testing.T, a, b impl.Result, want bool) {
	t.Helper()
	if got := impl.Agree(a, b); got != want {
		t.Errorf("Agree of %+v and %+v is %v", a, b, got)
	}
	if own := wantAgree(a, b); own != want {
		t.Errorf("the tests' own rule tells %v of %+v and %+v", own, a, b)
	}
}

func TestAgreeByHand(t *testing.T) {
	type result = impl.Result
	of := func(end int, out ...int) result { return result{End: end, Out: out} }
	for _, c := range []struct {
		a, b result
		want bool
	}{
		{of(impl.EndDone, 1, 2), of(impl.EndDone, 1, 2), true},
		{of(impl.EndDone), of(impl.EndDone), true},
		{of(impl.EndDone, 1, 2), of(impl.EndDone, 1), false},
		{of(impl.EndDone, 1, 2), of(impl.EndDone, 1, 3), false},
		{of(impl.EndDone, 1), of(impl.EndTrap, 1), false},
		{of(impl.EndDone, 1), of(impl.EndDeep, 1), false},
		{of(impl.EndDeep, 1), of(impl.EndTrap, 1), false},
		{of(impl.EndDeep, 1), of(impl.EndDeep, 1), true},
		{of(impl.EndDeep, 1), of(impl.EndDeep, 1, 2), false},
		{of(impl.EndTrap, 1), of(impl.EndTrap, 1), true},
		{of(impl.EndTrap), of(impl.EndTrap, 1), false},
		{result{End: impl.EndTrap, Why: 2}, result{End: impl.EndTrap, Why: 3}, false},
		{result{End: impl.EndTrap, Why: 6}, result{End: impl.EndTrap, Why: 6}, true},
		{result{End: impl.EndDone, N: 1}, result{End: impl.EndDone, N: 2}, false},
		{result{End: impl.EndDone, N: 1}, result{End: impl.EndDone, N: 1}, true},
		{result{End: impl.EndDone, N: 1, Steps: 3, Globals: []int{1}}, result{End: impl.EndDone, N: 1, Steps: 4, Globals: []int{2, 3}}, true},
		{of(impl.EndFuel), of(impl.EndDone, 1, 2), true},
		{of(impl.EndFuel, 1), of(impl.EndDone, 1, 2), true},
		{of(impl.EndFuel, 1, 2), of(impl.EndDone, 1, 2), true},
		{of(impl.EndFuel, 1, 2, 3), of(impl.EndDone, 1, 2), false},
		{of(impl.EndFuel, 2), of(impl.EndDone, 1, 2), false},
		{of(impl.EndFuel, 1), of(impl.EndTrap, 1, 2), true},
		{of(impl.EndFuel, 1), of(impl.EndDeep, 1, 2), true},
		{of(impl.EndFuel, 1), result{End: impl.EndTrap, Why: 2, Out: []int{1, 2}}, true},
		{of(impl.EndFuel, 1), result{End: impl.EndDone, N: 5, Out: []int{1}}, true},
		{result{End: impl.EndFuel, Steps: 5, Globals: []int{1}}, of(impl.EndDone), true},
		{of(impl.EndFuel), of(impl.EndFuel), true},
		{of(impl.EndFuel, 1), of(impl.EndFuel, 1, 2), true},
		{of(impl.EndFuel, 1, 2), of(impl.EndFuel, 1, 2), true},
		{of(impl.EndFuel, 1, 2), of(impl.EndFuel, 1, 3), false},
		{of(impl.EndFuel, 2), of(impl.EndFuel, 1, 2), false},
		{bad, bad, false},
		{bad, of(impl.EndDone), false},
		{bad, of(impl.EndTrap), false},
		{bad, of(impl.EndFuel), false},
		{bad, of(impl.EndDeep), false},
		{of(impl.EndBad, 1), of(impl.EndFuel, 1), false},
	} {
		wantAgreed(t, c.a, c.b, c.want)
		wantAgreed(t, c.b, c.a, c.want)
	}
}

// Each pair of ends, and of numbers that are none, with each pair of Outs, Whys and Ns.
func TestAgreeOfAllPairs(t *testing.T) {
	var l []impl.Result
	for end := 1; end <= 5; end++ {
		for _, out := range someOuts() {
			l = append(l, impl.Result{End: end, Out: out})
		}
		for _, r := range []impl.Result{{Why: 1}, {Why: 2}, {N: 1}, {N: -1}, {N: 1<<32 + 1}, {Steps: 7}, {Globals: []int{1}}, {Why: 6, N: 1, Out: []int{1, 2}}} {
			r.End = end
			l = append(l, r)
		}
	}
	l = append(l, impl.Result{}, impl.Result{End: -3}, impl.Result{End: 6, Out: []int{1}}, impl.Result{End: 1<<32 + 3})
	for _, a := range l {
		for _, b := range l {
			wantAgreed(t, a, b, wantAgree(a, b))
			if impl.Agree(a, b) != impl.Agree(b, a) {
				t.Errorf("Agree of %+v and %+v is %v, and not so the other way", a, b, impl.Agree(a, b))
			}
		}
	}
}

// Runs of one program agree with each other, whatever fuel they have.
func TestAgreeOfRuns(t *testing.T) {
	manyLively(150, func(p impl.Source, in []int) {
		var l []impl.Result
		for _, fuel := range []int{0, 5, 20, 50, 100, 300, 3000} {
			l = append(l, impl.Mean(p, in, fuel))
		}
		for _, a := range l {
			for _, b := range l {
				wantAgreed(t, a, b, true)
			}
		}
	})
}

func TestAgreeLeavesResults(t *testing.T) {
	for _, end := range []int{1, 2, 3, 4, 5} {
		out := []int{1, 2, 3, 4}
		a := impl.Result{End: 3, Out: out[:2], Globals: out[3:]}
		b := impl.Result{End: end, Out: out[:3]}
		first := impl.Agree(a, b)
		if impl.Agree(a, b) != first || !slices.Equal(out, []int{1, 2, 3, 4}) {
			t.Errorf("Agree changed what it was given, or tells another thing: %v", out)
		}
	}
}

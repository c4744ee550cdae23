package tests

import (
	"math"
	"slices"
	"testing"

	"loop.example/g00472/impl"
)

// wantMeaning: what Meaning must tell.
func wantMeaning(r impl.Result) impl.Result {
	if len(r.Globals) > 0 {
		if first := r.Globals[0]; first != 0 && r.End == 2 && r.Why == 1 {
			r.Why = first
		}
		r.Globals = slices.Clone(r.Globals[1:])
	}
	return r
}

func wantAsMeaning(t *testing.T, r, want impl.Result) {
	t.Helper()
	if got := impl.Meaning(r); !whole(got, want) {
		t.Errorf("Meaning of %+v is %+v, not %+v", r, got, want)
	}
	if own := wantMeaning(r); !whole(own, want) {
		t.Errorf("the tests' own rule tells %+v of %+v, not %+v", own, r, want)
	}
}

func TestMeaningByHand(t *testing.T) {
	for _, c := range [][2]impl.Result{
		{{}, {}},
		{leaving(done(5, 9), 0), done(5, 9)},
		{leaving(done(5, 9), 6), done(5, 9)},
		{leaving(done(5, 9), 0, 7, 8), leaving(done(5, 9), 7, 8)},
		{leaving(done(5, 9), 6, 7, 8), leaving(done(5, 9), 7, 8)},
		{saying(leaving(done(-1, 3), 0, 1), 1, 2, 3), saying(leaving(done(-1, 3), 1), 1, 2, 3)},
		{leaving(trapped(impl.WhyTrap, 9), 6), trapped(whyBound, 9)},
		{leaving(trapped(impl.WhyTrap, 9), 6, 7), leaving(trapped(whyBound, 9), 7)},
		{leaving(trapped(impl.WhyTrap, 9), 0, 6), leaving(trapped(impl.WhyTrap, 9), 6)},
		{leaving(trapped(impl.WhyTrap, 9), 2, 1), leaving(trapped(impl.WhyZero, 9), 1)},
		{leaving(trapped(impl.WhyTrap, 9), 3, 1), leaving(trapped(impl.WhyOver, 9), 1)},
		{leaving(trapped(impl.WhyTrap, 9), 1, 1), leaving(trapped(impl.WhyTrap, 9), 1)},
		{leaving(trapped(impl.WhyTrap, 9), -6), trapped(-6, 9)},
		{leaving(trapped(impl.WhyTrap, 9), math.MinInt), trapped(math.MinInt, 9)},
		{leaving(trapped(impl.WhyTrap, 9), 1<<32), trapped(1<<32, 9)},
		{trapped(impl.WhyTrap, 9), trapped(impl.WhyTrap, 9)},
		{saying(leaving(trapped(impl.WhyTrap, 9), 6, 5), 4), saying(leaving(trapped(whyBound, 9), 5), 4)},
		{leaving(trapped(impl.WhyZero, 9), 6, 5), leaving(trapped(impl.WhyZero, 9), 5)},
		{leaving(trapped(impl.WhyOver, 9), 6, 5), leaving(trapped(impl.WhyOver, 9), 5)},
		{leaving(trapped(impl.WhyMemory, 9), 6, 5), leaving(trapped(impl.WhyMemory, 9), 5)},
		{leaving(trapped(impl.WhyLink, 9), 6, 5), leaving(trapped(impl.WhyLink, 9), 5)},
		{leaving(trapped(whyBound, 9), 2, 5), leaving(trapped(whyBound, 9), 5)},
		{leaving(trapped(0, 9), 6, 5), leaving(trapped(0, 9), 5)},
		{leaving(ended(impl.EndFuel, 9), 6, 5), leaving(ended(impl.EndFuel, 9), 5)},
		{leaving(ended(impl.EndDeep, 9), 6, 5), leaving(ended(impl.EndDeep, 9), 5)},
		{leaving(bad, 6, 5), leaving(bad, 5)},
		{bad, bad},
	} {
		wantAsMeaning(t, c[0], c[1])
	}
}

// Each End with each Why and each first one, with no, one and more Globals.
func TestMeaningOfAllResults(t *testing.T) {
	firsts := []int{0, 1, 2, 3, 4, 5, 6, 7, -1, -6, impl.MaxI, impl.MinI, 1 << 40, math.MaxInt, math.MinInt}
	for _, end := range []int{math.MinInt, -2, 0, 1, 2, 3, 4, 5, 6, 1<<32 + 2, math.MaxInt} {
		for _, why := range []int{math.MinInt, -1, 0, 1, 2, 3, 4, 5, 6, 7, 1<<32 + 1, math.MaxInt} {
			for _, first := range firsts {
				for _, globals := range [][]int{nil, {}, {first}, {first, 0}, {first, 6, first}, append([]int{first}, upFrom0(29)...)} {
					r := impl.Result{End: end, Why: why, N: first, Out: []int{1, 6}, Steps: 77, Globals: globals}
					want := r
					want.Globals = globals[min(1, len(globals)):]
					if end == impl.EndTrap && why == impl.WhyTrap && len(globals) > 0 && first != 0 {
						want.Why = first
					}
					wantAsMeaning(t, r, want)
				}
			}
		}
	}
}

// Meaning changes no argument, not the room behind it either, and what it tells is new.
func TestMeaningLeavesItsArgument(t *testing.T) {
	for _, end := range []int{1, 2, 3, 4, 5} {
		for count := range 4 {
			out, globals := []int{1, 2, 3, 4, 5}, []int{6, 7, 8, 9, 10}
			r := impl.Result{End: end, Why: impl.WhyTrap, N: 3, Out: out[:count], Steps: 4, Globals: globals[:count]}
			want := wantMeaning(impl.Result{End: end, Why: impl.WhyTrap, N: 3, Out: slices.Clone(out[:count]), Steps: 4, Globals: slices.Clone(globals[:count])})
			first, again := impl.Meaning(r), impl.Meaning(r)
			spoilt(first)
			if !whole(again, want) || !whole(impl.Meaning(r), want) || !slices.Equal(out, []int{1, 2, 3, 4, 5}) || !slices.Equal(globals, []int{6, 7, 8, 9, 10}) || len(r.Globals) != count || r.Why != impl.WhyTrap {
				t.Errorf("what is written into an answer is seen elsewhere: %+v, %v, %v", again, out, globals)
			}
			fill(again.Out, 77)
			if !slices.Equal(again.Globals, want.Globals) {
				t.Errorf("what is written into Out is seen in Globals: %v", again.Globals)
			}
			third := impl.Meaning(r)
			fill(out, 99)
			fill(globals, 99)
			if !whole(third, want) {
				t.Errorf("what is written into the argument is seen in an answer: %+v", third)
			}
		}
	}
}

package tests

import (
	"testing"

	"loop.example/g00472/impl"
)

func TestPrefixByHand(t *testing.T) {
	for _, c := range []struct {
		a, b []int
		want bool
	}{
		{nil, nil, true},
		{nil, []int{}, true},
		{[]int{}, nil, true},
		{nil, []int{1}, true},
		{[]int{1}, nil, false},
		{[]int{1}, []int{1}, true},
		{[]int{1}, []int{2}, false},
		{[]int{1}, []int{1, 2}, true},
		{[]int{2}, []int{1, 2}, false},
		{[]int{1, 2}, []int{1}, false},
		{[]int{1, 2}, []int{1, 2}, true},
		{[]int{1, 2}, []int{1, 3}, false},
		{[]int{1, 2}, []int{1, 3, 2}, false},
		{[]int{1, 2, 3}, []int{1, 2, 3, 1, 2, 3}, true},
		{[]int{0}, nil, false},
		{[]int{0}, []int{256}, false},
		{[]int{-1}, []int{1<<32 - 1}, false},
	} {
		if got := impl.Prefix(impl.Result{Out: c.a}, impl.Result{Out: c.b}); got != c.want {
			t.Errorf("Prefix of %v and %v is %v", c.a, c.b, got)
		}
	}
}

// Of two Results Prefix asks for nothing but the Outs, Same not for Steps and Globals.
func TestWhatIsCompared(t *testing.T) {
	base := func() impl.Result {
		return impl.Result{End: 2, Why: 3, N: 4, Out: []int{5, 6}, Steps: 7, Globals: []int{8}}
	}
	for k, c := range []struct {
		change       func(r *impl.Result)
		prefix, same bool
	}{
		{func(r *impl.Result) {}, true, true},
		{func(r *impl.Result) { r.End = 1 }, true, false},
		{func(r *impl.Result) { r.Why = 0 }, true, false},
		{func(r *impl.Result) { r.N = 1<<32 + 4 }, true, false},
		{func(r *impl.Result) { r.N = -4 }, true, false},
		{func(r *impl.Result) { r.Steps = 0 }, true, true},
		{func(r *impl.Result) { r.Globals = nil }, true, true},
		{func(r *impl.Result) { r.Globals = []int{8, 9} }, true, true},
		{func(r *impl.Result) { r.Out = append(r.Out, 0) }, true, false},
		{func(r *impl.Result) { r.Out = r.Out[:1] }, false, false},
		{func(r *impl.Result) { r.Out = nil }, false, false},
		{func(r *impl.Result) { r.Out[1] = 0 }, false, false},
		{func(r *impl.Result) { r.Out[0] = 0 }, false, false},
	} {
		a, b := base(), base()
		c.change(&b)
		if got := impl.Prefix(a, b); got != c.prefix {
			t.Errorf("case %d: Prefix is %v", k, got)
		}
		if impl.Same(a, b) != c.same || impl.Same(b, a) != c.same {
			t.Errorf("case %d: Same is %v, and %v the other way", k, impl.Same(a, b), impl.Same(b, a))
		}
	}
}

// A list without elements and one that is nil are the same.
func TestComparedWithoutOut(t *testing.T) {
	a, b := impl.Result{End: 1}, impl.Result{End: 1, Out: []int{}, Globals: []int{}}
	if !impl.Same(a, b) || !impl.Same(b, a) || !impl.Prefix(a, b) || !impl.Prefix(b, a) || !impl.Same(impl.Result{}, impl.Result{}) {
		t.Error("nil is told from a list without elements")
	}
}

func TestComparingLeavesResults(t *testing.T) {
	room := []int{1, 2, 3, 9, 9}
	a := impl.Result{End: 1, Out: room[:3], Globals: []int{4}}
	b := impl.Result{End: 1, Out: []int{1, 2, 3}, Globals: []int{5}}
	if !impl.Same(a, b) || !impl.Prefix(a, b) || !impl.Prefix(b, a) {
		t.Error("what lies behind a list counts")
	}
	if !whole(a, impl.Result{End: 1, Out: []int{1, 2, 3}, Globals: []int{4}}) || room[3] != 9 || room[4] != 9 {
		t.Error("a Result was changed")
	}
}

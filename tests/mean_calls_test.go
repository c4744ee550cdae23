package tests

import (
	"math"
	"reflect"
	"slices"
	"testing"

	"loop.example/g00472/impl"
)

// meaningOf: a program with what it is given.
type meaningOf struct {
	p    impl.Source
	in   []int
	fuel int
}

// told: all that Mean and Cells tell of it, in lists of their own.
func (m meaningOf) told() meant {
	r := meant{impl.Mean(m.p, m.in, m.fuel), map[string][]int{}}
	for _, name := range sharedNames(m.p) {
		r.cells[name] = impl.Cells(m.p, m.in, m.fuel, name)
	}
	return r
}

func (m meant) copied() meant {
	m.Out, m.Globals = slices.Clone(m.Out), slices.Clone(m.Globals)
	cells := map[string][]int{}
	for name, l := range m.cells {
		cells[name] = slices.Clone(l)
	}
	m.cells = cells
	return m
}

func (m meant) same(other meant) bool {
	if len(m.cells) != len(other.cells) {
		return false
	}
	for name, l := range m.cells {
		if !slices.Equal(l, other.cells[name]) {
			return false
		}
	}
	return whole(m.Result, other.Result)
}

// meanings: programs that end in each way, and such as have a fault.
func meanings(t *testing.T) []meaningOf {
	t.Helper()
	var l []meaningOf
	for _, s := range []string{
		"int g; int h; int a[3]; int b[2]; func f(x, y) { var z = x; put(z); return z + y; } func main() { g = 1; while (g < 6) { a[g % 3] = f(g, get()); g = g + 1; } b[1] = a[0]; put(300); h = 7; return a[2]; }",
		"int g; int a[2]; func main() { put(1); a[0] = 1; g = 2; a[2] = 3; }",
		"int g; int a[2]; func main() { put(1); a[0] = 1; g = 2; g = g / (g - 2); }",
		"int g; int a[2]; func main() { put(1); a[0] = 1; g = 2; main(); }",
		"int g; int a[2]; func main() { put(1); a[0] = 1; g = 2; while (1) { put(get()); } }",
		"func main() { }",
	} {
		for _, fuel := range []int{-1, 0, 7, 60, 20000} {
			l = append(l, meaningOf{sourceOf(t, s), []int{5, 1 << 33, -3, 1<<32 - 2, 8}, fuel})
		}
	}
	for _, p := range checkSources(t) {
		l = append(l, meaningOf{p, []int{1, 0, 2}, 500})
	}
	manyLively(60, func(p impl.Source, in []int) { l = append(l, meaningOf{p, in, 700}) })
	return l
}

// No argument is changed, and an answer hangs on the arguments alone.
func TestMeanLeavesItsArguments(t *testing.T) {
	l := meanings(t)
	var first []meant
	for k, m := range l {
		m.p, m.in = roomySource(m.p), append(slices.Grow([]int{}, len(m.in)+5), m.in...)
		keptP, keptIn := wholeLists(m.p), slices.Clone(m.in[:cap(m.in)])
		first = append(first, m.told())
		if !reflect.DeepEqual(plainSource(wholeLists(m.p)), plainSource(keptP)) || !slices.Equal(m.in[:cap(m.in)], keptIn) {
			t.Errorf("run %d changed what it was given, or the room behind it", k)
		}
		if again := m.told(); !first[k].same(again) {
			t.Errorf("run %d is first %+v, then %+v", k, first[k], again)
		}
	}
	for k := len(l) - 1; k >= 0; k-- {
		m := meaningOf{copiedSource(l[k].p), slices.Clone(l[k].in), l[k].fuel}
		if again := m.told(); !first[k].same(again) {
			t.Errorf("run %d is %+v, and behind others %+v", k, first[k], again)
		}
	}
}

// What is written into an answer is seen in no other answer, in no other list of it, and in no argument.
func TestAnswersOfMeanAreNew(t *testing.T) {
	for k, m := range meanings(t) {
		m.p, m.in = roomySource(m.p), slices.Clone(m.in)
		keptP, keptIn := wholeLists(m.p), slices.Clone(m.in)
		first, again := m.told(), m.told()
		want := again.copied()
		kept := first.copied()
		fill(first.Out, 77)
		kept.Out = first.Out
		if !first.same(kept) {
			t.Errorf("run %d: what is written into Out is seen in another list", k)
		}
		fill(first.Globals, 88)
		kept.Out, kept.Globals = times(77, len(first.Out)), first.Globals
		if !first.same(kept) {
			t.Errorf("run %d: what is written into Globals is seen in another list", k)
		}
		for _, l := range first.cells {
			fill(l, 99)
		}
		if !again.same(want) || !m.told().same(want) || !reflect.DeepEqual(plainSource(wholeLists(m.p)), plainSource(keptP)) || !slices.Equal(m.in, keptIn) {
			t.Errorf("run %d: what is written into an answer is seen elsewhere", k)
		}
		fill(m.in, 5)
		overwrite(m.p, func(what string) {
			if !again.same(want) {
				t.Errorf("run %d: what is written into %s is seen in an answer", k, what)
			}
		})
	}
}

// What lies behind in, in its room, isn't taken.
func TestRoomBehindInOfMean(t *testing.T) {
	p := sourceOf(t, "func main() { put(get()); put(get()); put(get()); }")
	in := []int{1, 2, 3, 4}
	for count := range in {
		want := append(slices.Clone(in[:count]), 255, 255, 255)[:3]
		if got := impl.Mean(p, in[:count], 99); !slices.Equal(got.Out, want) {
			t.Errorf("Out is %v, not %v", got.Out, want)
		}
	}
	if !whole(impl.Mean(p, nil, 99), impl.Mean(p, []int{}, 99)) {
		t.Error("nil and a list without elements are told apart")
	}
}

// Any argument is answered, in a moment, without a panic.
func TestMeanAtAllArguments(t *testing.T) {
	for _, p := range checkSources(t) {
		for _, fuel := range []int{math.MinInt, -1, 0, 30, math.MaxInt} {
			for _, in := range [][]int{nil, {math.MinInt, math.MaxInt}, times(1, 3000)} {
				wantAsMeant(t, short(p), p, in, fuel)
			}
		}
		for k := range p.Nodes {
			for _, n := range []int{-1, 0, k, len(p.Nodes), math.MaxInt, math.MinInt} {
				wantAsMeant(t, "a kid more", changed(p, k, func(node *impl.Node) { node.Kids = append(slices.Clone(node.Kids), n) }), nil, 50)
				wantAsMeant(t, "another kind", changed(p, k, func(node *impl.Node) { node.Kind = n }), nil, 50)
			}
		}
	}
}

package tests

import (
	"reflect"
	"slices"
	"testing"

	"loop.example/g00472/impl"
)

// busy: a module that reads and writes all that a run has, and its args and in.
func busy(t *testing.T) (m impl.Module, args, in []int) {
	t.Helper()
	m = machine(t, 1, "local.get 0;i32.const 1;i32.add;local.tee 0;global.set 0;call 0;call 1;call 0;call 1;i32.const 10;i32.const -1;i32.store 0 0;i32.const 1;memory.grow;drop;i32.const 11;i32.load 0 0;local.get 0;i32.add")
	m.Sigs[0].Params = 1
	m.Data = []impl.Data{{At: 8, Bytes: []byte{1, 2, 3, 4, 5, 6, 7, 8}}, {At: 12, Bytes: []byte{9}}}
	return m, []int{1<<32 + 41}, []int{300, 6, 7}
}

// runOf: a module with what it is run at.
type runOf struct {
	m     impl.Module
	index int
	args  []int
	in    []int
	fuel  int
}

func (r runOf) told() impl.Result { return impl.Run(r.m, r.index, r.args, r.in, r.fuel) }

func (r runOf) main() impl.Result { return impl.RunMain(r.m, r.in, r.fuel) }

func (r runOf) copied() runOf {
	r.m, r.args, r.in = copied(r.m), slices.Clone(r.args), slices.Clone(r.in)
	return r
}

// someRuns: runs of all ends.
func someRuns(t *testing.T) []runOf {
	m, args, in := busy(t)
	l := []runOf{{m, 3, args, in, 99}, {m, 3, args, in, 6}, {m, 0, nil, in, 0}, {m, 1, []int{-5}, in, 0}, {m, 2, nil, in, 0}, {m, 9, nil, in, 9}}
	next := spread()
	for range 60 {
		m := makeModule(next)
		index := len(m.Imports) + next(len(m.Funcs))
		l = append(l, runOf{m, index, argsFor(next, m, index), []int{5, 1 << 33, -3}, 300})
	}
	for _, m := range wrongModules(t) {
		l = append(l, runOf{m, 3, nil, []int{1}, 20})
	}
	return append(l, runOf{machine(t, 0, "call 3"), 3, nil, nil, 300}, runOf{machine(t, 0, ""), 4, []int{1, 2}, nil, 3})
}

// No argument is changed, and an answer hangs on the arguments alone.
func TestRunsLeaveTheirArguments(t *testing.T) {
	l := someRuns(t)
	var first []impl.Result
	for k, r := range l {
		kept := r.copied()
		first = append(first, r.told())
		r.main()
		if !reflect.DeepEqual(r, kept) {
			t.Errorf("run %d changed what it was given", k)
		}
		if again := r.told(); !whole(first[k], again) {
			t.Errorf("run %d is first %+v, then %+v", k, first[k], again)
		}
		kept.m = nilled(kept.m)
		if of := kept.told(); !whole(first[k], of) {
			t.Errorf("run %d with nil for empty lists is %+v, not %+v", k, of, first[k])
		}
	}
	for k := len(l) - 1; k >= 0; k-- {
		if again := l[k].told(); !whole(first[k], again) {
			t.Errorf("run %d is %+v, and behind others %+v", k, first[k], again)
		}
	}
}

// spoilt: everything that the lists of an answer have room for is written over.
func spoilt(r impl.Result) {
	fill(r.Out[:cap(r.Out)], 77)
	fill(r.Globals[:cap(r.Globals)], 88)
}

// What is written into an answer is seen in no other answer, in no other list of it, and in no argument.
func TestAnswersOfRunsAreNew(t *testing.T) {
	m, args, in := busy(t)
	run := runOf{m, 3, args, in, 99}
	kept := run.copied()
	want := run.told()
	want.Out, want.Globals = slices.Clone(want.Out), slices.Clone(want.Globals)
	first, again := run.told(), run.told()
	spoilt(first)
	if !whole(again, want) || !whole(run.told(), want) || !reflect.DeepEqual(run, kept) {
		t.Errorf("what is written into an answer is seen elsewhere: %+v", again)
	}
	fill(again.Out[:cap(again.Out)], 77)
	if !slices.Equal(again.Globals, want.Globals) {
		t.Errorf("what is written into Out is seen in Globals: %v", again.Globals)
	}
	third := run.told()
	fill(third.Globals[:cap(third.Globals)], 88)
	if !slices.Equal(third.Out, want.Out) {
		t.Errorf("what is written into Globals is seen in Out: %v", third.Out)
	}
	fourth := run.told()
	fill(run.in, 99)
	fill(run.args, 99)
	fill(run.m.Globals, impl.Global{Init: 99})
	if !whole(fourth, want) {
		t.Errorf("what is written into an argument is seen in an answer: %+v", fourth)
	}
}

func TestAnswersOfRunMainAreNew(t *testing.T) {
	m := machine(t, 0, "call 0;call 1;call 0;call 1")
	want := impl.RunMain(m, []int{1, 2}, 9)
	want.Out, want.Globals = slices.Clone(want.Out), slices.Clone(want.Globals)
	first, again := impl.RunMain(m, []int{1, 2}, 9), impl.RunMain(m, []int{1, 2}, 9)
	spoilt(first)
	if !whole(again, want) || !whole(impl.RunMain(m, []int{1, 2}, 9), want) {
		t.Errorf("what is written into an answer is seen in another: %+v", again)
	}
}

// What lies behind a list in its room is neither read nor written.
func TestRoomBehindArgumentsOfRuns(t *testing.T) {
	m, args, in := busy(t)
	want := impl.Run(m, 3, args, in, 99)
	roomyArgs := []int{args[0], 50, 51}
	roomyIn := []int{in[0], 60, 61}
	got := impl.Run(m, 3, roomyArgs[:1], roomyIn[:1], 99)
	if want.Out[1] != 6 || got.Out[1] != 255 {
		t.Errorf("what lies behind in is taken: %v", got.Out)
	}
	if roomyArgs[1] != 50 || roomyIn[1] != 60 {
		t.Error("what lies behind an argument is written over")
	}
	data := []byte{1, 2, 3, 4, 5, 6, 7, 8}
	m.Data[0].Bytes = data[:2]
	impl.Run(m, 3, args, in, 99)
	if !slices.Equal(data, []byte{1, 2, 3, 4, 5, 6, 7, 8}) {
		t.Error("what lies behind Data is written over")
	}
}

// What busy does, by hand, so that the tests above tell of the right run.
func TestBusyByHand(t *testing.T) {
	m, args, in := busy(t)
	// From place 11 on: three bytes of the -1 that was stored at 10, and the 7 of Data at 14.
	wantRun(t, m, 3, args, in, 99, leaving(saying(done(7<<24+1<<24-1+42, 19), 44, 6), 42, -5))
}

// A run of the greatest body, with the most that may be on the stack, ends within a moment.
func TestGreatestRuns(t *testing.T) {
	const half = impl.MaxBody / 2
	m := alone(t, impl.Sig{Results: 1}, joined(values(half), many("i32.add", half-1), "nop"))
	wantRun(t, m, 0, nil, nil, 20000, done(7*half, 2*half))
	deep := alone(t, impl.Sig{Results: 1}, joined(many("block 1", half-1), "i32.const 1;br 749", many("end", half-1)))
	wantRun(t, deep, 0, nil, nil, 20000, done(1, half+1))
	round := alone(t, impl.Sig{}, joined("loop 0", many("block 0", 700), "br 700", many("end", 700), "end"))
	for range 50 {
		wantRun(t, round, 0, nil, nil, 20000, ended(impl.EndFuel, 20000))
	}
	calls := alone(t, impl.Sig{Params: 60}, joined("loop 0", many("nop", 1400), "end", many("local.get 0", 60), "call 0"))
	wantRun(t, calls, 0, times(1, 60), nil, 20000, ended(impl.EndFuel, 20000))
}

package tests

import (
	"slices"
	"strconv"
	"testing"

	"loop.example/g00472/impl"
)

// nameIsThere: what node k of function fn names is a local named ahead, a global, an array or a function, as its kind asks.
func nameIsThere(p impl.Source, fn, k int) bool {
	n := p.Nodes[k]
	locals := slices.Clone(p.Fns[fn].Params)
	for v := p.Fns[fn].Body; v < k; v++ {
		if p.Nodes[v].Kind == impl.NVar && endOf(p, v) < k {
			locals = append(locals, p.Nodes[v].S)
		}
	}
	isLocal := slices.Contains(locals, n.S)
	switch n.Kind {
	case impl.NVar:
		return !isLocal
	case impl.NSet:
		return isLocal || slices.Contains(p.Globals, n.S)
	case impl.NName:
		return isLocal || slices.Contains(p.Globals, n.S) || slices.Contains(sized(p), k) && hasArray(p, n.S)
	case impl.NAt, impl.NPut:
		return !isLocal && hasArray(p, n.S)
	case impl.NCall:
		return argsOf(p, n.S) == len(n.Kids)
	}
	return true
}

// P9: of right programs each name is there.
func TestNamesOfRightProgramsAreThere(t *testing.T) {
	kinds, hiding := map[int]int{}, 0
	manyRight(400, func(p impl.Source) {
		if code, at := impl.Check(p); code != 0 || at != 0 {
			t.Errorf("Check of %.300q is %d, %d", impl.PrintSource(p), code, at)
			return
		}
		for fn := range p.Fns {
			for k, end := span(p, fn); k < end; k++ {
				kinds[p.Nodes[k].Kind]++
				if !nameIsThere(p, fn, k) {
					t.Errorf("what node %d, %s, of %.300q names isn't there", k, short(p.Nodes[k]), impl.PrintSource(p))
				}
			}
			for _, name := range impl.LocalsOf(p, fn) {
				hiding += one(slices.Contains(sharedNames(p), name))
			}
		}
		wantTellsAsModel(t, impl.PrintSource(p), p)
	})
	for kind := impl.NNum; kind <= impl.NBlock; kind++ {
		if kinds[kind] < 100 {
			t.Errorf("there are only %d nodes of kind %d", kinds[kind], kind)
		}
	}
	if hiding < 100 {
		t.Errorf("only %d locals have the name of something else", hiding)
	}
}

// P9: Reached has main just once, is rising, and is closed: it has what each of it calls, and nothing else.
func TestReachedHasWhatIsCalled(t *testing.T) {
	sizes := map[int]int{}
	manyRight(400, func(p impl.Source) {
		reached := impl.Reached(p)
		sizes[len(reached)]++
		mains := 0
		for k, fn := range reached {
			if fn < 0 || fn >= len(p.Fns) || k > 0 && reached[k-1] >= fn {
				t.Fatalf("Reached of %.300q is %v", impl.PrintSource(p), reached)
			}
			mains += one(p.Fns[fn].Name == "main")
			for _, called := range impl.Calls(p, fn) {
				if !slices.Contains(reached, called) {
					t.Errorf("Reached of %.300q is %v, without %d, which %d calls", impl.PrintSource(p), reached, called, fn)
				}
			}
			if p.Fns[fn].Name != "main" && !slices.ContainsFunc(reached, func(caller int) bool { return caller != fn && slices.Contains(impl.Calls(p, caller), fn) }) {
				t.Errorf("Reached of %.300q is %v, but no other of these calls %d", impl.PrintSource(p), reached, fn)
			}
		}
		if mains != 1 {
			t.Errorf("Reached of %.300q is %v, with main %d times", impl.PrintSource(p), reached, mains)
		}
	})
	for size := 1; size <= 4; size++ {
		if sizes[size] < 10 {
			t.Errorf("only in %d programs one comes to %d functions", sizes[size], size)
		}
	}
}

// changesOf: p with one thing changed in each of many ways.
func changesOf(next func(int) int, p impl.Source, do func(what string, q impl.Source)) {
	names := append(sharedNames(p), "nobody", "x", "y")
	for fn := range p.Fns {
		names = append(names, wantLocalsOf(p, fn)...)
	}
	for k, n := range p.Nodes {
		if n.S == "" || n.Kind == impl.NUnary || n.Kind == impl.NBinary {
			continue
		}
		for range 4 {
			q := copiedSource(p)
			q.Nodes[k].S = pick(next, names)
			do("another name of node "+strconv.Itoa(k), q)
		}
	}
	for range 6 {
		q := copiedSource(p)
		switch fn := next(len(p.Fns)); next(4) {
		case 0:
			q.Fns[fn].Params = append(q.Fns[fn].Params, pick(next, names))
		case 1:
			q.Fns[fn].Params = q.Fns[fn].Params[:next(len(q.Fns[fn].Params)+1)]
		case 2:
			q.Fns[fn].Name = pick(next, names)
		case 3:
			q.Globals = append(q.Globals[:next(len(q.Globals)+1)], pick(next, names))
		}
		do("another head", q)
	}
	for k := range p.Arrays {
		q := copiedSource(p)
		q.Arrays[k].Name = pick(next, names)
		do("another array", q)
		q.Arrays = slices.Delete(q.Arrays, k, k+1)
		do("an array less", q)
	}
}

// Right programs with one change, or with several: Check tells what the tests' own rules do.
func TestCheckOfProgramsWithChanges(t *testing.T) {
	next := spread()
	told := map[int]int{}
	manyRight(150, func(p impl.Source) {
		if len(p.Nodes) > 150 {
			return
		}
		for k := range p.Nodes {
			p.Nodes[k].At = 1 + (k*7)%5000
		}
		last := p
		changesOf(next, p, func(what string, q impl.Source) {
			told[wantAsChecked(t, what, q)]++
			last = q
		})
		for range 3 {
			changesOf(next, last, func(what string, q impl.Source) {
				if next(10) == 0 {
					told[wantAsChecked(t, what+", behind another change", q)]++
					last = q
				}
			})
		}
	})
	for _, code := range []int{0, takenName, noName, otherArgs, notArray, noMain} {
		if told[code] < 50 {
			t.Errorf("code %d is told only %d times", code, told[code])
		}
	}
}

// Right programs with another count of arguments, or other arguments, in one call at a time.
func TestCheckOfOtherCountsOfArguments(t *testing.T) {
	g := &lawful{planner: planner{spread()}}
	told := map[int]int{}
	for k := range 150 {
		p, bodies := g.program(1 + k%60)
		for fn := range bodies {
			for _, body := range withOtherArgs(bodies[fn]) {
				all := slices.Clone(bodies)
				all[fn] = body
				told[wantAsChecked(t, "other arguments", laid(p, all...))]++
			}
		}
	}
	if told[otherArgs] < 300 {
		t.Errorf("there were only %d calls with other counts", told[otherArgs])
	}
}

// withOtherArgs: the trees that are t but for one call with an argument less, or more, or another one.
func withOtherArgs(t tree) []tree {
	var l []tree
	if t.kind == impl.NCall {
		l = append(l, t.with(append(slices.Clone(t.kids), tNum(1))...), t.with(append([]tree{tName("nobody")}, t.kids...)...))
		if len(t.kids) > 0 {
			l = append(l, t.with(t.kids[1:]...), t.with(append(slices.Clone(t.kids[1:]), tUnary("-", tName("nobody")))...))
		}
	}
	for k := range t.kids {
		for _, other := range withOtherArgs(t.kids[k]) {
			kids := slices.Clone(t.kids)
			kids[k] = other
			l = append(l, t.with(kids...))
		}
	}
	return l
}

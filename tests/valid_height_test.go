package tests

import (
	"slices"
	"strings"
	"testing"

	"loop.example/g00472/impl"
)

// heightCase: a body, how many results its function has, and the height ahead of each instruction.
type heightCase struct {
	results int
	text    string
	heights []int
}

func heightCases() []heightCase {
	return []heightCase{
		{0, "", nil},
		{0, "nop", []int{0}},
		{0, "nop;nop", []int{0, 0}},
		{1, "i32.const 1;i32.const 2;i32.add;return;nop", []int{0, 1, 2, 1, -1}},
		{0, "i32.const 1;i32.const 2;i32.const 3;select;drop", []int{0, 1, 2, 3, 1}},
		{0, "unreachable;nop;i32.const 1;drop", []int{0, -1, -1, -1}},
		// What is open last is dead, not what is within it or around it.
		{1, "block 1;unreachable;end", []int{0, 0, -1}},
		{0, "block 1;unreachable;end;drop", []int{0, 0, -1, 1}},
		{0, "unreachable;block 0;nop;end;nop", []int{0, -1, 0, 0, -1}},
		{0, "unreachable;i32.const 1;i32.const 2;block 0;nop;i32.const 3;drop;end;drop;drop", []int{0, -1, -1, -1, 2, 2, 3, 2, -1, -1}},
		{0, "unreachable;loop 1;i32.const 1;end;nop;drop", []int{0, -1, 0, 1, -1, -1}},
		{0, "unreachable;if 0;nop;else;nop;end;nop", []int{0, -1, 0, 0, 0, 0, -1}},
		// The condition of an if is taken ahead of its base.
		{0, "i32.const 9;i32.const 1;if 0;nop;else;i32.const 2;drop;end;drop", []int{0, 1, 2, 1, 1, 1, 2, 1, 1}},
		{1, "i32.const 1;if 1;i32.const 2;else;i32.const 3;end", []int{0, 1, 0, 1, 0, 1}},
		{1, "i32.const 1;if 1;unreachable;else;i32.const 3;end", []int{0, 1, 0, -1, 0, 1}},
		{1, "i32.const 1;if 1;i32.const 3;else;i32.const 4;return;end", []int{0, 1, 0, 1, 0, 1, -1}},
		{1, "i32.const 1;if 1;i32.const 3;br 0;nop;else;i32.const 4;br 1;nop;end", []int{0, 1, 0, 1, -1, -1, 0, 1, -1, -1}},
		{0, "loop 0;block 0;br 1;end;i32.const 1;br_if 0;end", []int{0, 0, 0, -1, 0, 1, 0}},
		{1, "i32.const 5;i32.const 6;br_if 0", []int{0, 1, 2}},
		{1, "i32.const 5;i32.const 6;br_if 0;nop", []int{0, 1, 2, 1}},
		{0, "i32.const 5;i32.const 6;return;drop;drop;drop", []int{0, 1, 2, -1, -1, -1}},
		{0, "block 0;block 0;br 1;end;nop;end;nop", []int{0, 0, 0, -1, 0, 0, 0}},
		{1, "i32.const 1;i32.const 2;call 3;call 0;call 3", []int{0, 1, 2, 1, 2}},
		{0, "i32.const 1;i32.const 2;i32.const 3;call 4", []int{0, 1, 2, 3}},
		{0, "local.get 0;local.tee 1;local.set 2;global.get 1;global.set 0", []int{0, 1, 1, 0, 1}},
		{1, "memory.size;memory.grow;i32.load 0 0;i32.const 1;i32.const 2;i32.store 0 0;i32.eqz", []int{0, 1, 1, 1, 2, 3, 1}},
	}
}

// The height ahead of each instruction, -1 where nothing can be reached, and the greatest of them.
func TestHeightsByHand(t *testing.T) {
	for _, c := range heightCases() {
		m := around(t, c.results, c.text)
		wantTold(t, m, 0, -1, c.heights)
		wantAsWalked(t, m, 0)
	}
}

func TestMaxStackByHand(t *testing.T) {
	cases := []struct {
		results int
		text    string
		want    int
	}{
		{0, "", 0}, {0, "nop", 0}, {1, "i32.const 1", 0}, {1, "i32.const 1;nop", 1},
		{1, "i32.const 1;i32.const 2;i32.add", 2},
		{0, "unreachable", 0}, {0, "unreachable;i32.const 1;i32.const 2;i32.const 3;drop;drop;drop", 0},
		{0, "unreachable;i32.const 1;i32.const 2;block 0;nop;end;drop;drop", 2},
		{0, "i32.const 1;i32.const 1;i32.const 1;i32.const 1;drop;drop;drop;drop", 4},
		{1, "drop", -1}, {0, "i32.const 1", -1}, {1, "", -1},
	}
	for _, c := range cases {
		if got := impl.MaxStack(around(t, c.results, c.text), 0); got != c.want {
			t.Errorf("MaxStack is %d, not %d, of %q", got, c.want, c.text)
		}
	}
}

// Heights are told of bodies that are right alone, to the last instruction.
func TestNoHeightsOfWrongBodies(t *testing.T) {
	for _, text := range []string{"drop", "nop;nop;drop", "i32.const 1", "block 0;i32.const 1;end", "nop;call 9", "unreachable;br 1", "i32.const 1;global.set 1", "i32.const 1;return;i32.const 1"} {
		m := around(t, 0, text)
		if l, ok := impl.StackAt(m, 0); ok || len(l) != 0 {
			t.Errorf("StackAt is %v, %v of %q", l, ok, text)
		}
		if got := impl.MaxStack(m, 0); got != -1 {
			t.Errorf("MaxStack is %d of %q", got, text)
		}
	}
}

// A wrong body beside it changes nothing of what is told of a right one.
func TestHeightsBesideWrongBodies(t *testing.T) {
	m := around(t, 1, "i32.const 1;i32.const 2;i32.sub")
	m.Funcs[1].Body = bodyOf(t, "nop;drop")
	m.Funcs[2].Body = bodyOf(t, "nop;nop;call 700")
	m.Exports = append(m.Exports, m.Exports[0])
	wantTold(t, m, 0, -1, []int{0, 1, 2})
	wantTold(t, m, 1, 1, nil)
	wantTold(t, m, 2, 2, nil)
}

// Bodies as long, as high and as deep as they may be.
func TestLongBodies(t *testing.T) {
	const half = impl.MaxBody / 2
	high := around(t, 0, joined(values(half), drops(half)))
	wantAsWalked(t, high, 0)
	if got := impl.MaxStack(high, 0); got != half {
		t.Errorf("MaxStack is %d, not %d", got, half)
	}
	wantFault(t, 0, joined(values(half), drops(half-1), "nop"), impl.MaxBody)
	wantFault(t, 0, joined(values(half-1), drops(half), "nop"), impl.MaxBody-2)
	wantFault(t, 0, values(impl.MaxBody), impl.MaxBody)
	deep := joined(many("block 1", half-1), "i32.const 1", many("end", half-1))
	wantRight(t, 1, deep)
	wantFault(t, 0, deep, impl.MaxBody-1)
	wantRight(t, 1, joined(many("loop 1", half-1), "br 700", many("end", half-1)))
	wantRight(t, 1, joined(many("block 1", half-1), "i32.const 1;br 748", many("end", half-2), "end"))
	wantRight(t, 1, joined(many("block 1", half-1), "i32.const 1;br 749", many("end", half-1)))
	wantFault(t, 1, joined(many("block 1", half-1), "i32.const 1;br 750", many("end", half-1)), half)
	wantTold(t, tooLong(t), 0, -2, nil)
}

func tooLong(t *testing.T) impl.Module {
	t.Helper()
	m := around(t, 0, "")
	m.Funcs[0].Body = times(impl.Ins{Op: impl.OpNop}, impl.MaxBody+1)
	return m
}

// alphabet: instructions of which all short bodies are made.
func alphabet() []string {
	return strings.Split("i32.const 1;drop;block 0;block 1;loop 1;if 0;if 1;else;end;br 0;br 1;br_if 0;unreachable;i32.add", ";")
}

// Every body of at most five instructions of the alphabet, in a function with and without a result.
func TestAllShortBodiesAsWalked(t *testing.T) {
	var letters []impl.Ins
	for _, text := range alphabet() {
		letters = append(letters, bodyOf(t, text)[0])
	}
	for results := 0; results <= 1; results++ {
		m := around(t, results, "")
		var all func(body []impl.Ins, left int)
		all = func(body []impl.Ins, left int) {
			m.Funcs[0].Body = body
			wantAsWalked(t, m, 0)
			if left == 0 || t.Failed() {
				return
			}
			for _, i := range letters {
				all(append(slices.Clone(body), i), left-1)
			}
		}
		all(nil, 5)
	}
}

// spread: numbers below a bound, by a fixed rule.
func spread() func(below int) int {
	n := uint64(88172645463325252)
	return func(below int) int {
		n ^= n << 13
		n ^= n >> 7
		n ^= n << 17
		return int(n>>20) % below
	}
}

// anyIns: an instruction that may well be right in the module of around.
func anyIns(next func(int) int) impl.Ins {
	usual := []int{impl.OpConst, impl.OpConst, impl.OpConst, impl.OpEnd, impl.OpEnd, impl.OpElse, impl.OpIf, impl.OpBlock, impl.OpLoop, impl.OpBr, impl.OpBrIf}
	ops := knownOps()
	k := ops[next(len(ops))]
	if next(2) == 0 {
		k = knownByNumber[usual[next(len(usual))]]
	}
	i := impl.Ins{Op: k.op}
	if k.count > 0 {
		i.A = next(min(k.mostA, 5) + 1)
	}
	return i
}

// grown: a body of right shape, made instruction by instruction; one that
// isn't right where it comes stays now and then.
func grown(m impl.Module, next func(int) int) []impl.Ins {
	var body []impl.Ins
	for range next(30) {
		i := anyIns(next)
		longer := append(slices.Clone(body), i)
		m.Funcs[0].Body = closedUp(longer)
		fault, _ := wantWalk(m, 0)
		if fault == -2 || fault == len(body) && next(12) > 0 {
			continue
		}
		body = longer
	}
	return closedUp(body)
}

// closedUp: the body with as many ends as it lacks.
func closedUp(body []impl.Ins) []impl.Ins {
	out := slices.Clone(body)
	open := 0
	for _, i := range body {
		switch i.Op {
		case impl.OpBlock, impl.OpLoop, impl.OpIf:
			open++
		case impl.OpEnd:
			open--
		}
	}
	return append(out, times(impl.Ins{Op: impl.OpEnd}, max(open, 0))...)
}

// Longer bodies spread by a fixed rule, right ones and wrong ones.
func TestManyBodiesAsWalked(t *testing.T) {
	next := spread()
	right := 0
	const count = 6000
	for k := range count {
		m := around(t, k%2, "")
		if k%5 == 0 {
			m.Pages = -1
		}
		m.Funcs[0].Body = grown(m, next)
		fault := wantAsWalked(t, m, 0)
		if impl.ModuleOk(m) != (fault == -1) {
			t.Errorf("ModuleOk isn't %v of %q", fault == -1, impl.BodyText(m.Funcs[0].Body))
		}
		if fault == -1 {
			right++
		}
		if t.Failed() {
			return
		}
	}
	if right < count/20 || right > count-count/20 {
		t.Errorf("%d of %d are right: these bodies tell too little", right, count)
	}
}

package tests

import (
	"strconv"
	"strings"
	"testing"

	"loop.example/g00472/impl"
)

// flowCase: a body, how many results it has, and what its run tells.
type flowCase struct {
	results int
	text    string
	want    impl.Result
}

func wantFlows(t *testing.T, cases []flowCase) {
	t.Helper()
	for _, c := range cases {
		wantMain(t, c.results, c.text, nil, c.want)
	}
}

// Steps are the instructions that were begun; the function's own end is none.
func TestStepsOfPlainBodies(t *testing.T) {
	wantFlows(t, []flowCase{
		{0, "", done(0, 0)},
		{0, "nop", done(0, 1)},
		{0, "nop;nop;nop", done(0, 3)},
		{1, "i32.const 7", done(7, 1)},
		{1, "i32.const -2147483648", done(impl.MinI, 1)},
		{1, "i32.const 2147483647", done(impl.MaxI, 1)},
		{0, "i32.const 7;drop", done(0, 2)},
		{1, "i32.const 7;i32.const 8;drop", done(7, 3)},
		{0, "unreachable", trapped(impl.WhyTrap, 1)},
		{1, "i32.const 7;nop;unreachable", trapped(impl.WhyTrap, 3)},
		{1, "i32.const 7;return;unreachable", done(7, 2)},
	})
}

// An end and an else count where they are come to, and where a branch passes them they don't.
func TestStepsOfElseAndEnd(t *testing.T) {
	wantFlows(t, []flowCase{
		{0, "block 0;end", done(0, 2)},
		{0, "loop 0;end", done(0, 2)},
		{0, "block 0;loop 0;end;end", done(0, 4)},
		{0, "i32.const 1;if 0;end", done(0, 3)},
		{0, "i32.const 0;if 0;end", done(0, 2)},
		{0, "i32.const 1;if 0;else;end", done(0, 3)},
		{0, "i32.const 0;if 0;else;end", done(0, 3)},
		{0, "i32.const 1;if 0;nop;else;nop;nop;end", done(0, 4)},
		{0, "i32.const 0;if 0;nop;else;nop;nop;end", done(0, 5)},
		{0, "i32.const 1;if 0;nop;nop;end;nop", done(0, 6)},
		{0, "i32.const 0;if 0;nop;nop;end;nop", done(0, 3)},
		{0, "block 0;br 0;end", done(0, 2)},
		{0, "block 0;br 0;nop;end;nop", done(0, 3)},
		{0, "block 0;block 0;br 0;end;end", done(0, 4)},
		{0, "block 0;block 0;br 1;end;nop;end;nop", done(0, 4)},
		{0, "block 0;block 0;br 2;end;nop;end;nop", done(0, 3)},
		{0, "i32.const 1;if 0;br 0;else;nop;end;nop", done(0, 4)},
		{0, "i32.const 0;if 0;nop;else;br 0;nop;end;nop", done(0, 4)},
		{0, "i32.const 1;if 0;br 1;else;nop;end;nop", done(0, 3)},
		{0, "i32.const 0;if 0;nop;else;br 1;nop;end;nop", done(0, 3)},
		{0, "return", done(0, 1)},
		{0, "br 0", done(0, 1)},
		{0, "br 0;nop", done(0, 1)},
		{0, "block 0;return;end;nop", done(0, 2)},
	})
}

// An if goes by whether what it takes is 0, not by its sign or its lowest bit.
func TestIfs(t *testing.T) {
	for _, n := range []int{1, 2, -1, 256, 65536, impl.MinI, impl.MaxI, 0} {
		c := "i32.const " + strconv.Itoa(n)
		yes, no := 1, 2
		if n == 0 {
			yes, no = 2, 1
		}
		wantN(t, machine(t, 1, joined(c, "if 1;i32.const 1;else;i32.const 2;end")), 3, nil, yes)
		wantN(t, machine(t, 1, joined("i32.const 2", c, "if 0;i32.const 1;return;end")), 3, nil, yes)
		wantN(t, machine(t, 1, joined("block 0", c, "br_if 0;i32.const 1;return;end;i32.const 2")), 3, nil, no)
		wantN(t, machine(t, 1, joined("i32.const 1;i32.const 2", c, "select")), 3, nil, yes)
		wantN(t, machine(t, 1, joined(c, "if 0;i32.const 1;local.set 0;else;i32.const 2;local.set 0;end;local.get 0")), 3, nil, yes)
	}
}

// An if within an if finds its own else and its own end.
func TestIfsWithinIfs(t *testing.T) {
	inner := "local.get 1;if 1;i32.const 10;else;i32.const 20;end"
	text := joined("local.get 0;if 1", inner, "i32.const 1;i32.add;else", inner, "i32.const 2;i32.add;end")
	single := "local.get 0;if 0;local.get 1;if 0;i32.const 1;local.set 2;end;else;local.get 1;if 0;i32.const 2;local.set 2;else;i32.const 3;local.set 2;end;end;local.get 2"
	for _, c := range []struct{ a, b, want, other int }{{1, 1, 11, 1}, {1, 0, 21, 0}, {0, 1, 12, 2}, {0, 0, 22, 3}} {
		m := alone(t, impl.Sig{Params: 2, Results: 1}, text)
		wantN(t, m, 0, []int{c.a, c.b}, c.want)
		wantAsPlayed(t, m, 0, []int{c.a, c.b}, nil, 100)
		m = alone(t, impl.Sig{Params: 2, Results: 1}, single)
		m.Funcs[0].Locals = 1
		wantN(t, m, 0, []int{c.a, c.b}, c.other)
		wantAsPlayed(t, m, 0, []int{c.a, c.b}, nil, 100)
	}
}

// What lies above the base is cut to what a branch takes; what lies below stays.
func TestBranchesCut(t *testing.T) {
	wantFlows(t, []flowCase{
		// To a block.
		{1, "i32.const 10;block 1;i32.const 1;i32.const 2;i32.const 3;br 0;end;i32.sub", done(7, 7)},
		{1, "i32.const 10;block 0;i32.const 1;i32.const 2;i32.const 3;br 0;end", done(10, 6)},
		{1, "i32.const 10;block 1;i32.const 1;i32.const 2;i32.const 3;i32.const 4;br_if 0;drop;drop;end;i32.sub", done(7, 8)},
		{1, "i32.const 10;block 1;i32.const 1;i32.const 2;i32.const 3;i32.const 0;br_if 0;drop;drop;end;i32.sub", done(9, 11)},
		// To an if, from its first part and from its else.
		{1, "i32.const 10;i32.const 1;if 1;i32.const 2;i32.const 3;br 0;else;i32.const 4;end;i32.sub", done(7, 7)},
		{1, "i32.const 10;i32.const 0;if 1;i32.const 2;else;i32.const 3;i32.const 4;br 0;end;i32.sub", done(6, 7)},
		{1, "i32.const 10;i32.const 1;if 0;i32.const 2;i32.const 3;br 0;end", done(10, 6)},
		{1, "i32.const 10;i32.const 0;if 0;else;i32.const 2;i32.const 3;br 0;end", done(10, 6)},
		// To the function itself, by its number and by return.
		{1, "i32.const 10;i32.const 1;i32.const 2;br 0", done(2, 4)},
		{1, "i32.const 10;i32.const 1;i32.const 2;return", done(2, 4)},
		{1, "i32.const 10;block 0;i32.const 1;i32.const 2;br 1;end", done(2, 5)},
		{1, "i32.const 10;block 0;i32.const 1;i32.const 2;return;end", done(2, 5)},
		{0, "i32.const 10;block 0;i32.const 1;i32.const 2;br 1;end;drop", done(0, 5)},
		{0, "i32.const 10;block 0;i32.const 1;i32.const 2;return;end;drop", done(0, 5)},
		{1, "i32.const 10;i32.const 2;i32.const 1;br_if 0;drop", done(2, 4)},
		{1, "i32.const 10;i32.const 2;i32.const 0;br_if 0;drop", done(10, 5)},
		// Over others, in which more lies.
		{1, "i32.const 10;block 1;i32.const 1;i32.const 2;block 0;i32.const 3;loop 0;i32.const 4;i32.const 5;br 2;end;drop;end;drop;end;i32.sub", done(5, 11)},
	})
}

// A branch to a loop goes on behind its begin, with nothing of its own on the stack.
func TestRunBranchesToLoops(t *testing.T) {
	count := "i32.const 1;i32.add;local.tee 0"
	wantFlows(t, []flowCase{
		// Three rounds: the loop itself is begun once.
		{1, joined("loop 0;local.get 0", count, "i32.const 3;i32.lt_s;br_if 0;end;local.get 0"), done(3, 1+3*7+2)},
		// Each round leaves two numbers behind, which are cut.
		{1, joined("i32.const 9;loop 0;i32.const 8;i32.const 7;local.get 0", count, "i32.const 3;i32.lt_s;br_if 0;drop;drop;end"), done(9, 2+3*9+3)},
		{1, joined("i32.const 9;loop 0;block 0;local.get 0", count, "i32.const 3;i32.ge_s;br_if 0;i32.const 6;br 1;end;end"), done(9, 2+3*8+2*2+1)},
		// A loop with a result puts it at its end, and a branch to it takes none.
		{1, joined("i32.const 9;loop 1;local.get 0", count, "i32.const 3;i32.lt_s;br_if 0;local.get 0;end;i32.sub"), done(6, 2+3*7+3)},
		// Out of two loops at once, and from the inner to the outer.
		{1, joined("block 0;loop 0;loop 0;local.get 0", count, "i32.const 3;i32.ge_s;br_if 2;br 1;end;end;end;local.get 0"), done(3, 1+1+3*8+2+1)},
		{0, "loop 0;br 0;end", ended(impl.EndFuel, impl.MaxFuel)},
		{0, "loop 0;i32.const 1;br_if 0;end", ended(impl.EndFuel, impl.MaxFuel)},
		{0, "loop 0;loop 0;br 1;end;end", ended(impl.EndFuel, impl.MaxFuel)},
	})
}

// After a branch to a loop the inner ones are closed and the loop is open: branches within count from there.
func TestOpenOnesBehindABranch(t *testing.T) {
	text := joined("block 0", "loop 0", "block 0", "local.get 0;i32.const 1;i32.add;local.tee 0;i32.const 4;i32.ge_s;br_if 2",
		"block 0;block 0;br 3;end;end", "end", "end", "end", "local.get 0")
	wantN(t, machine(t, 1, text), 3, nil, 4)
	wantAsPlayed(t, machine(t, 1, text), 3, nil, nil, 500)
	// An end behind closes the one that it is the end of, and the next branch goes to the one around.
	text = "block 1;block 0;block 0;br 1;end;unreachable;end;i32.const 3;br 0;end"
	wantN(t, machine(t, 1, text), 3, nil, 3)
	text = "block 1;i32.const 0;if 0;unreachable;else;nop;end;i32.const 4;br 0;end;i32.const 1;i32.add"
	wantN(t, machine(t, 1, text), 3, nil, 5)
	text = "block 1;i32.const 1;if 0;nop;else;unreachable;end;i32.const 4;br 0;end;i32.const 1;i32.add"
	wantN(t, machine(t, 1, text), 3, nil, 5)
	text = "block 1;i32.const 0;if 0;unreachable;end;i32.const 4;br 0;end;i32.const 1;i32.add"
	wantN(t, machine(t, 1, text), 3, nil, 5)
}

// deepNest: a body of many blocks, from whose innermost one branches to one of them; behind each end a bit of the result is set.
func deepNest(size, to int) string {
	behind := []string{}
	for k := range size {
		behind = append(behind, "end;local.get 0;i32.const "+strconv.Itoa(1<<k)+";i32.add;local.set 0")
	}
	return joined(many("block 0", size), "br "+strconv.Itoa(to), strings.Join(behind, ";"), "local.get 0")
}

// A branch goes on behind the end of just that one.
func TestBranchesToEachOfMany(t *testing.T) {
	const size = 20
	for to := range size {
		wantN(t, machine(t, 1, deepNest(size, to)), 3, nil, 1<<size-1<<to)
	}
}

func TestReturnFromDeepWithin(t *testing.T) {
	for _, r := range rooms() {
		text := joined("i32.const 3;drop", r.ahead, "i32.const 5;i32.const 6;return", r.behind, "i32.const 9")
		if strings.Contains(r.ahead, "unreachable") || strings.Contains(r.ahead, "else") {
			text = strings.Replace(text, "i32.const 1;if", "i32.const 0;if", 1)
		}
		wantN(t, machine(t, 1, text), 3, nil, 6)
	}
}

// Select takes c, b, a: a where c isn't 0, else b.
func TestSelects(t *testing.T) {
	wantFlows(t, []flowCase{
		{1, "i32.const 9;i32.const 8;i32.const 0;select", done(8, 4)},
		{1, "i32.const 9;i32.const 8;i32.const 1;select", done(9, 4)},
		{1, "i32.const 9;i32.const 8;i32.const -1;select", done(9, 4)},
		{1, "i32.const 7;i32.const 9;i32.const 8;i32.const 0;select;i32.sub", done(-1, 6)},
	})
}

// Locals begin at 0 behind the Params, and are the call's own.
func TestLocals(t *testing.T) {
	wantFlows(t, []flowCase{
		{1, "local.get 0", done(0, 1)},
		{1, "local.get 2", done(0, 1)},
		{1, "i32.const 4;local.set 1;local.get 1", done(4, 3)},
		{1, "i32.const 4;local.set 1;local.get 0", done(0, 3)},
		{1, "i32.const 4;local.tee 1;local.get 1;i32.add", done(8, 4)},
		{1, "i32.const 4;local.tee 1;i32.const 5;local.set 1", done(4, 4)},
	})
	m := alone(t, impl.Sig{Params: 3, Results: 1}, "local.get 0;i32.const 100;i32.mul;local.get 1;i32.const 10;i32.mul;i32.add;local.get 2;i32.add;local.get 3;i32.sub")
	m.Funcs[0].Locals = 1
	wantN(t, m, 0, []int{1, 2, 3}, 123)
	m.Funcs[0].Body = bodyOf(t, "local.get 1;local.set 0;i32.const 7;local.set 3;local.get 0;local.get 3;i32.add")
	wantN(t, m, 0, []int{1, 2, 3}, 9)
}

func TestGlobals(t *testing.T) {
	wantFlows(t, []flowCase{
		{1, "global.get 0", done(5, 1)},
		{1, "global.get 1", done(-5, 1)},
		{0, "i32.const 9;global.set 0", leaving(done(0, 2), 9, -5)},
		{1, "i32.const -2147483648;global.set 0;global.get 0", leaving(done(impl.MinI, 3), impl.MinI, -5)},
		{0, "i32.const 9;global.set 0;unreachable", leaving(trapped(impl.WhyTrap, 3), 9, -5)},
		{0, "loop 0;global.get 0;i32.const 1;i32.add;global.set 0;br 0;end", leaving(ended(impl.EndFuel, 20000), 5+3999+1, -5)},
	})
	m := impl.Module{Sigs: []impl.Sig{{}}, Funcs: []impl.Func{{}}, Pages: -1, Most: -1}
	want := done(0, 0)
	for k := range impl.MaxGlobals {
		init := []int{0, impl.MinI, impl.MaxI, -1}[k%4]
		m.Globals = append(m.Globals, impl.Global{Mut: k%3 == 0, Init: init})
		want.Globals = append(want.Globals, init)
	}
	wantRun(t, m, 0, nil, nil, 0, want)
}

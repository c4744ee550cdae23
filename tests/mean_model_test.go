package tests

import (
	"slices"
	"testing"

	"loop.example/g00472/impl"
)

// The tests' own reading of what a program means. It goes through the nodes
// with lists of what is yet to do, one for each open call, and calls itself
// nowhere; what a name stands for is told by the places of nodes. The program
// makes closures of parts, which call one another.

// task: a node, and how much of it was done: stage 0 where it isn't begun.
type task struct{ node, stage int }

// openCall: what is yet to do in a call, and the numbers that wait there.
type openCall struct {
	locals map[string]int
	todo   []task
	pile   []int
}

// then puts what is to do next ahead of all else, the first of it first.
func (c *openCall) then(l ...task) {
	slices.Reverse(l)
	c.todo = append(c.todo, l...)
}

func (c *openCall) push(n int) { c.pile = append(c.pile, n) }

func (c *openCall) pop() int {
	n := lastOf(c.pile, 1)[0]
	c.pile = c.pile[:len(c.pile)-1]
	return n
}

// meaningRun: a program that is run. ofLocal: what a node names is a local; got: how many of in are taken.
type meaningRun struct {
	p       impl.Source
	ofLocal []bool
	in      []int
	got     int
	fuel    int
	told    impl.Result
	globals map[string]int
	cells   map[string][]int
	calls   []*openCall
}

func localNames(p impl.Source) []bool {
	l := make([]bool, len(p.Nodes))
	for fn := range p.Fns {
		for k, end := span(p, fn); k < end; k++ {
			l[k] = p.Nodes[k].Kind == impl.NVar || p.Nodes[k].S != "" && localAt(p, fn, k, p.Nodes[k].S)
		}
	}
	return l
}

func (r *meaningRun) halt(end, why int) { r.told.End, r.told.Why = end, why }

func (r *meaningRun) call(fn int, args []int) {
	if len(r.calls) == 100 {
		r.halt(impl.EndDeep, 0)
		return
	}
	c := &openCall{locals: map[string]int{}}
	for k, name := range r.p.Fns[fn].Params {
		c.locals[name] = args[k]
	}
	c.then(task{node: r.p.Fns[fn].Body})
	r.calls = append(r.calls, c)
}

// leave: the last call is left, and tells n.
func (r *meaningRun) leave(n int) {
	r.calls = r.calls[:len(r.calls)-1]
	if len(r.calls) == 0 {
		r.told.End, r.told.N = impl.EndDone, n
		return
	}
	r.calls[len(r.calls)-1].push(n)
}

func isLogic(n impl.Node) bool {
	return n.Kind == impl.NBinary && (n.S == "&&" || n.S == "||")
}

// step does the next thing that is to do.
func (r *meaningRun) step() {
	c := r.calls[len(r.calls)-1]
	if len(c.todo) == 0 {
		r.leave(0)
		return
	}
	next := c.todo[len(c.todo)-1]
	n := r.p.Nodes[next.node]
	if next.stage > 0 {
		c.todo = c.todo[:len(c.todo)-1]
		r.finish(c, next, n)
		return
	}
	if r.told.Steps == r.fuel {
		r.halt(impl.EndFuel, 0)
		return
	}
	r.told.Steps++
	c.todo = c.todo[:len(c.todo)-1]
	ahead := n.Kids
	switch {
	case n.Kind == impl.NCall && n.S == "size":
		ahead = nil
	case n.Kind == impl.NIf || n.Kind == impl.NWhile || n.Kind == impl.NPut || isLogic(n):
		ahead = n.Kids[:1]
	}
	c.then(append(begins(ahead...), task{next.node, 1})...)
}

func begins(nodes ...int) []task {
	var l []task
	for _, k := range nodes {
		l = append(l, task{node: k})
	}
	return l
}

// finish: so many kids of the node were done as are done ahead of the stage.
func (r *meaningRun) finish(c *openCall, at task, n impl.Node) {
	again := task{at.node, at.stage + 1}
	switch n.Kind {
	case impl.NNum:
		c.push(n.N)
	case impl.NName, impl.NSet, impl.NVar:
		r.named(c, at.node, n)
	case impl.NAt:
		if r.within(n.S, lastOf(c.pile, 1)[0]) {
			c.push(r.cells[n.S][c.pop()])
		}
	case impl.NPut:
		r.put(c, again, n)
	case impl.NCall:
		r.calling(c, n)
	case impl.NUnary:
		a := c.pop()
		c.push([]int{wantWrap(-a), one(a == 0), -1 - a}[placeIn("- ! ~", n.S)])
	case impl.NBinary:
		r.between(c, again, n)
	case impl.NIf:
		if which := 1 + one(c.pop() == 0); which < len(n.Kids) {
			c.then(begins(n.Kids[which])...)
		}
	case impl.NWhile:
		if at.stage == 2 {
			c.then(task{node: n.Kids[0]}, task{at.node, 1})
		} else if c.pop() != 0 {
			c.then(task{node: n.Kids[1]}, again)
		}
	case impl.NReturn:
		r.leave(c.pop())
	case impl.NDo:
		c.pop()
	}
}

func (r *meaningRun) named(c *openCall, node int, n impl.Node) {
	where := r.globals
	if r.ofLocal[node] {
		where = c.locals
	}
	if n.Kind == impl.NName {
		c.push(where[n.S])
		return
	}
	where[n.S] = c.pop()
}

func (r *meaningRun) within(name string, index int) bool {
	right := index >= 0 && index < len(r.cells[name])
	if !right {
		r.halt(impl.EndTrap, 6)
	}
	return right
}

func (r *meaningRun) put(c *openCall, again task, n impl.Node) {
	if again.stage == 3 {
		two := lastOf(c.pile, 2)
		r.cells[n.S][two[0]] = two[1]
		c.pile = c.pile[:len(c.pile)-2]
	} else if r.within(n.S, lastOf(c.pile, 1)[0]) {
		c.then(task{node: n.Kids[1]}, again)
	}
}

func (r *meaningRun) calling(c *openCall, n impl.Node) {
	switch n.S {
	case "size":
		c.push(len(r.cells[r.p.Nodes[n.Kids[0]].S]))
	case "get":
		if r.got == len(r.in) {
			c.push(-1)
			return
		}
		c.push(wantWrap(r.in[r.got]))
		r.got++
	case "put":
		r.told.Out = append(r.told.Out, wantPlain(c.pop())&255)
		c.push(0)
	default:
		args := slices.Clone(lastOf(c.pile, len(n.Kids)))
		c.pile = c.pile[:len(c.pile)-len(n.Kids)]
		r.call(numberOfFn(r.p, n.S), args)
	}
}

// between: what a sign makes of what stands beside it.
func (r *meaningRun) between(c *openCall, again task, n impl.Node) {
	if isLogic(n) {
		v := c.pop() != 0
		if again.stage == 3 || v == (n.S == "||") {
			c.push(one(v))
		} else {
			c.then(task{node: n.Kids[1]}, again)
		}
		return
	}
	b, a := c.pop(), c.pop()
	got, why := wantBetween(n.S, a, b)
	if why != 0 {
		r.halt(impl.EndTrap, why)
		return
	}
	c.push(got)
}

// wantBetween: what a sign that needs both numbers makes of them, and the Why where it makes nothing.
func wantBetween(sign string, a, b int) (n, why int) {
	return wantNumber(map[string]string{
		"==": "eq", "!=": "ne", "<": "lt_s", ">": "gt_s", "<=": "le_s", ">=": "ge_s", "|": "or", "^": "xor", "&": "and",
		"<<": "shl", ">>": "shr_s", "+": "add", "-": "sub", "*": "mul", "/": "div_s", "%": "rem_s",
	}[sign], a, b)
}

// meant: what Mean must tell, and Cells of each array.
type meant struct {
	impl.Result
	cells map[string][]int
}

func wantMeant(p impl.Source, in []int, fuel int) meant {
	if code, _ := wantCheckOf(p); code != 0 {
		return meant{Result: bad}
	}
	r := &meaningRun{p: p, ofLocal: localNames(p), in: in, fuel: max(0, min(fuel, 20000)), globals: map[string]int{}, cells: map[string][]int{}}
	for _, a := range p.Arrays {
		r.cells[a.Name] = times(0, a.Size)
	}
	r.call(numberOfFn(p, "main"), nil)
	for r.told.End == 0 {
		r.step()
	}
	for _, name := range p.Globals {
		r.told.Globals = append(r.told.Globals, r.globals[name])
	}
	return meant{r.told, r.cells}
}

// wantAsMeant: Mean and Cells tell what the tests' own reading does.
func wantAsMeant(t *testing.T, what string, p impl.Source, in []int, fuel int) meant {
	t.Helper()
	want := wantMeant(p, in, fuel)
	if got := impl.Mean(p, in, fuel); !whole(got, want.Result) {
		t.Errorf("Mean with %v and fuel %d is %+v, not %+v, of %.900s", in, fuel, got, want.Result, what)
	}
	for _, name := range append(sharedNames(p), "", "nobody", "x", "main") {
		if got := impl.Cells(p, in, fuel, name); !slices.Equal(got, want.cells[name]) {
			t.Errorf("Cells of %q with %v and fuel %d is %v, not %v, of %.900s", name, in, fuel, got, want.cells[name], what)
		}
	}
	return want
}

package tests

import (
	"slices"

	"loop.example/g00472/impl"
)

// lawful makes programs without a fault by a fixed rule: what a function's body
// names is chosen of what can be named there.
type lawful struct {
	planner
	p impl.Source
	// locals: those of the function that can be named here.
	locals []string
}

// fresh: a name that the program hasn't yet; locals may have some of these too.
func (g *lawful) fresh() string {
	for {
		name := pick(g.next, []string{"a", "b", "c", "d", "f", "g", "h", "x", "y", "z"}) + pick(g.next, []string{"", "", "1", "2", "_"})
		if !slices.Contains(sharedNames(g.p), name) {
			return name
		}
	}
}

// local: a name that the function has no local of; it may hide another.
func (g *lawful) local() string {
	for {
		name := pick(g.next, append([]string{"x", "y", "z", "x1", "y1", "i", "j"}, sharedNames(g.p)...))
		if !slices.Contains(g.locals, name) {
			return name
		}
		if g.next(3) == 0 {
			return "v" + impl.NumText(len(g.locals))
		}
	}
}

// declared: an NVar of a new local, which can be named from then on.
func (g *lawful) declared(value tree) tree {
	name := g.local()
	g.locals = append(g.locals, name)
	return tVar(name, value)
}

func (g *lawful) isHidden(name string) bool { return slices.Contains(g.locals, name) }

// numbers: the names that stand for a number.
func (g *lawful) numbers() []string {
	return append(slices.DeleteFunc(slices.Clone(g.p.Globals), g.isHidden), g.locals...)
}

// arrays: the names that stand for an array.
func (g *lawful) arrays() []string {
	var l []string
	for _, a := range g.p.Arrays {
		if !g.isHidden(a.Name) {
			l = append(l, a.Name)
		}
	}
	return l
}

// call: of a function with arguments of about so many nodes; no params where the size is 1 or less.
func (g *lawful) call(size int) tree {
	names := []string{"get"}
	if size > 1 {
		names = append(names, "put")
	}
	for _, f := range g.p.Fns {
		if size > 1 || len(f.Params) == 0 {
			names = append(names, f.Name, f.Name)
		}
	}
	t := tCall(pick(g.next, names))
	for _, part := range g.shares(size-1, argsOf(g.p, t.s)) {
		t.kids = append(t.kids, g.expression(part))
	}
	return t
}

func (g *lawful) leaf() tree {
	numbers, arrays := g.numbers(), g.arrays()
	switch which := g.next(10); {
	case which < 5 && len(numbers) > 0:
		return tName(pick(g.next, numbers))
	case which < 6 && len(arrays) > 0:
		return tCall("size", tName(pick(g.next, arrays)))
	case which < 8:
		return g.call(1)
	}
	return tNum(g.next(5))
}

func (g *lawful) expression(size int) tree {
	two, arrays := g.shares(size-1, 2), g.arrays()
	switch which := g.next(10); {
	case size <= 1:
		return g.leaf()
	case which < 4:
		return tBinary(pick(g.next, betweenSigns()), g.expression(two[0]), g.expression(two[1]))
	case which < 5:
		return tUnary(pick(g.next, aheadSigns), g.expression(size-1))
	case which < 7 && len(arrays) > 0:
		return tAt(pick(g.next, arrays), g.expression(size-1))
	}
	return g.call(size)
}

func (g *lawful) statement(size int) tree {
	two, three := g.shares(size, 2), g.shares(size, 3)
	numbers, arrays := g.numbers(), g.arrays()
	switch which := g.next(12); {
	case which < 3 && len(g.locals) < 40:
		return g.declared(g.expression(size - 1))
	case which < 5 && len(numbers) > 0:
		return tSet(pick(g.next, numbers), g.expression(size-1))
	case which < 7 && len(arrays) > 0:
		return tPut(pick(g.next, arrays), g.expression(two[0]), g.expression(two[1]))
	case which < 8:
		return tIf(g.expression(two[0]), g.block(two[1]))
	case which < 9:
		return tIf(g.expression(three[0]), g.block(three[1]), g.block(three[2]))
	case which < 10:
		return tWhile(g.expression(two[0]), g.block(two[1]))
	case which < 11:
		return tReturn(g.expression(size - 1))
	}
	return tDo(g.expression(size - 1))
}

func (g *lawful) block(size int) tree { return blockOf(g.next, size, g.statement) }

// heads: globals, arrays and functions, `main` at any place among these.
func (g *lawful) heads() {
	g.p = impl.Source{}
	for range g.next(4) {
		g.p.Globals = append(g.p.Globals, g.fresh())
	}
	for range g.next(4) {
		g.p.Arrays = append(g.p.Arrays, impl.Array{Name: g.fresh(), Size: 1 + g.next(5)})
	}
	for range g.next(5) {
		f := impl.Fn{Name: g.fresh()}
		g.locals = nil
		for range g.next(4) {
			g.locals = append(g.locals, g.local())
		}
		f.Params = g.locals
		g.p.Fns = append(g.p.Fns, f)
	}
	g.p.Fns = slices.Insert(g.p.Fns, g.next(len(g.p.Fns)+1), impl.Fn{Name: "main"})
}

// program: one of about size nodes, and the bodies of its functions.
func (g *lawful) program(size int) (impl.Source, []tree) {
	g.heads()
	var bodies []tree
	for k, part := range g.shares(size, len(g.p.Fns)) {
		g.locals = slices.Clone(g.p.Fns[k].Params)
		bodies = append(bodies, g.block(part))
	}
	return laid(g.p, bodies...), bodies
}

// manyRight does something with so many programs without a fault.
func manyRight(count int, do func(p impl.Source)) {
	g := &lawful{planner: planner{spread()}}
	for k := range count {
		size := 1 + k%60
		if k%10 == 0 {
			size = 100 + k%400
		}
		if p, _ := g.program(size); hasText(p) {
			do(p)
		}
	}
}

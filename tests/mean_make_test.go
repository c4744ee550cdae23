package tests

import (
	"slices"

	"loop.example/g00472/impl"
)

// lively makes programs without a fault that do something for a while: loops
// mostly come to an end, indexes are mostly within, and functions mostly call
// those ahead of them.
type lively struct {
	lawful
	fn int
}

// often: of some hundred times so many.
func (g *lively) often(percent int) bool { return g.next(100) < percent }

func (g *lively) number() tree {
	return tNum(pick(g.next, []int{0, 1, 1, 2, 3, 5, 7, 10, 31, 32, 100, 255, 256, 65537, impl.MaxI - 1, impl.MaxI}))
}

func (g *lively) callees() []impl.Fn {
	if g.often(8) {
		return g.p.Fns
	}
	return g.p.Fns[:g.fn]
}

func (g *lively) leaf() tree {
	numbers, arrays := g.numbers(), g.arrays()
	switch which := g.next(20); {
	case which < 10 && len(numbers) > 0:
		return tName(pick(g.next, numbers))
	case which < 13:
		return tCall("get")
	case which < 14 && len(arrays) > 0:
		return tCall("size", tName(pick(g.next, arrays)))
	}
	return g.number()
}

// index: an expression that is mostly within an array of that name.
func (g *lively) index(array string, size int) tree {
	cells := 0
	for _, a := range g.p.Arrays {
		cells += a.Size * one(a.Name == array)
	}
	switch {
	case g.often(10):
		return g.expression(size)
	case size < 6:
		return tNum(g.next(cells))
	}
	// The rest of a division has a sign; without it the number is plain.
	return tBinary("%", tBinary("&", g.expression(size-4), tNum(impl.MaxI)), tCall("size", tName(array)))
}

func (g *lively) call(size int) tree {
	l := g.callees()
	if len(l) == 0 || g.often(25) {
		return tCall("put", g.expression(size-1))
	}
	f := pick(g.next, l)
	t := tCall(f.Name)
	for _, part := range g.shares(size-1, len(f.Params)) {
		t.kids = append(t.kids, g.expression(part))
	}
	return t
}

func (g *lively) expression(size int) tree {
	if size <= 1 {
		return g.leaf()
	}
	two, arrays := g.shares(size-1, 2), g.arrays()
	switch which := g.next(20); {
	case which < 9:
		sign := pick(g.next, betweenSigns())
		if (sign == "/" || sign == "%") && g.often(70) {
			return tBinary(sign, g.expression(two[0]), tBinary("|", g.expression(two[1]), tNum(1)))
		}
		return tBinary(sign, g.expression(two[0]), g.expression(two[1]))
	case which < 12:
		return tUnary(pick(g.next, aheadSigns), g.expression(size-1))
	case which < 15 && len(arrays) > 0:
		name := pick(g.next, arrays)
		return tAt(name, g.index(name, size-1))
	}
	return g.call(size)
}

// loop: one that counts, one that takes what is left of in, or any.
func (g *lively) loop(size int) tree {
	two := g.shares(size, 2)
	if len(g.locals) < 30 && g.often(70) {
		start := g.declared(tNum(1 + g.next(6)))
		count := tName(start.s)
		body := g.block(two[1])
		body.kids = append(body.kids, tSet(start.s, tBinary("-", count, tNum(1))))
		return tIf(tNum(1), tBlock(start, tWhile(tBinary(">", count, tNum(0)), body)))
	}
	if g.often(60) {
		return tWhile(tBinary(pick(g.next, []string{"!=", ">", ">="}), tCall("get"), tUnary("-", tNum(1))), g.block(two[1]))
	}
	return tWhile(g.expression(two[0]), g.block(two[1]))
}

func (g *lively) statement(size int) tree {
	two, three := g.shares(size, 2), g.shares(size, 3)
	numbers, arrays := g.numbers(), g.arrays()
	switch which := g.next(24); {
	case which < 4 && len(g.locals) < 30:
		return g.declared(g.expression(size - 1))
	case which < 8 && len(numbers) > 0:
		return tSet(pick(g.next, numbers), g.expression(size-1))
	case which < 12 && len(arrays) > 0:
		name := pick(g.next, arrays)
		return tPut(name, g.index(name, two[0]), g.expression(two[1]))
	case which < 14:
		return tIf(g.expression(two[0]), g.block(two[1]))
	case which < 16:
		return tIf(g.expression(three[0]), g.block(three[1]), g.block(three[2]))
	case which < 20 && size > 4:
		return g.loop(size)
	case which < 21:
		return tReturn(g.expression(size - 1))
	}
	return tDo(g.call(size))
}

func (g *lively) block(size int) tree { return blockOf(g.next, size, g.statement) }

// program: one of about size nodes; main is the last of its functions.
func (g *lively) program(size int) impl.Source {
	g.heads()
	g.p.Fns = slices.DeleteFunc(g.p.Fns, func(f impl.Fn) bool { return f.Name == "main" })
	g.p.Fns = append(g.p.Fns, impl.Fn{Name: "main"})
	var bodies []tree
	for k, part := range g.shares(size, len(g.p.Fns)+1) {
		// main has the share that is left over too, and each of the others tells something at its end.
		g.fn = min(k, len(g.p.Fns)-1)
		if k < len(g.p.Fns) {
			g.locals = slices.Clone(g.p.Fns[k].Params)
			bodies = append(bodies, tBlock())
		}
		body := &bodies[g.fn]
		body.kids = append(body.kids, g.block(part).kids...)
		if k != len(g.p.Fns)-1 {
			body.kids = append(body.kids, tReturn(g.expression(3)))
		}
	}
	return laid(g.p, bodies...)
}

// manyLively does something with so many of these programs, and with an in for each.
func manyLively(count int, do func(p impl.Source, in []int)) {
	g := &lively{lawful: lawful{planner: planner{spread()}}}
	for k := range count {
		p := g.program(10 + k%120)
		var in []int
		for range g.next(6) {
			in = append(in, pick(g.next, []int{0, 1, 2, 3, 5, -2, 300, impl.MaxI, impl.MinI, 1<<32 + 3, -1 << 40}))
		}
		if hasText(p) {
			do(p, in)
		}
	}
}

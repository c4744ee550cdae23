package tests

import (
	"strings"
	"testing"

	"loop.example/g00472/impl"
)

// part: an open part of a body as the tests see it: a pile of its own, on
// top of what lay there when it began.
type part struct {
	outer   *part
	loop    bool
	results int
	under   int
	own     int
	dead    bool
}

func (p *part) take(count int) bool {
	if p.own < count && !p.dead {
		return false
	}
	p.own = max(p.own-count, 0)
	return true
}

func (p *part) die() { p.own, p.dead = 0, true }

// full: just its results lie there, or fewer where the rest can't be reached.
func (p *part) full() bool { return p.own == p.results || p.dead && p.own < p.results }

// out: the part that is count parts further out, nil where there is none.
func (p *part) out(count int) *part {
	for ; p != nil && count > 0; count-- {
		p = p.outer
	}
	return p
}

func (p *part) taken() int {
	if p.loop {
		return 0
	}
	return p.results
}

// usualEffect: what operations that hang on nothing else take and put, by their names.
func usualEffect(name string) (takes, puts int) {
	groups := map[string][2]int{
		"nop":                       {0, 0},
		"drop local.set global.set": {1, 0},
		"i32.store":                 {2, 0},
		"i32.const local.get global.get memory.size":                        {0, 1},
		"i32.eqz i32.clz i32.ctz i32.popcnt i32.load memory.grow local.tee": {1, 1},
		"select": {3, 1},
	}
	for names, e := range groups {
		for _, n := range strings.Fields(names) {
			if n == name {
				return e[0], e[1]
			}
		}
	}
	return 2, 1
}

// walked: a body as it is gone through part by part; at is where one is, and
// stays there where the instruction isn't right.
type walked struct {
	m       impl.Module
	f       impl.Func
	at      int
	heights []int
}

// functionSig: of the functions of m, imports first, the Sig of the index-th.
func functionSig(m impl.Module, index int) (impl.Sig, bool) {
	var l []int
	for _, i := range m.Imports {
		l = append(l, i.Sig)
	}
	for _, f := range m.Funcs {
		l = append(l, f.Sig)
	}
	if index < 0 || index >= len(l) {
		return impl.Sig{}, false
	}
	return m.Sigs[l[index]], true
}

func (w *walked) names(i impl.Ins) bool {
	switch name := knownByNumber[i.Op].name; name {
	case "local.get", "local.set", "local.tee":
		return i.A < w.m.Sigs[w.f.Sig].Params+w.f.Locals
	case "global.get", "global.set":
		return i.A < len(w.m.Globals) && (name == "global.get" || w.m.Globals[i.A].Mut)
	case "i32.load", "i32.store", "memory.size", "memory.grow":
		return w.m.Pages >= 0
	}
	return true
}

func (w *walked) plain(p *part, i impl.Ins) bool {
	takes, puts := usualEffect(knownByNumber[i.Op].name)
	if i.Op == impl.OpCall {
		sig, ok := functionSig(w.m, i.A)
		if !ok {
			return false
		}
		takes, puts = sig.Params, sig.Results
	}
	if !w.names(i) || !p.take(takes) {
		return false
	}
	p.own += puts
	return true
}

func (w *walked) jump(p *part, i impl.Ins) bool {
	to := p.out(i.A)
	if i.Op == impl.OpReturn {
		for to = p; to.outer != nil; {
			to = to.outer
		}
	}
	switch {
	case to == nil:
		return false
	case i.Op == impl.OpBrIf:
		if !p.take(1) || !p.take(to.taken()) {
			return false
		}
		p.own += to.taken()
		return true
	}
	if !p.take(to.taken()) {
		return false
	}
	p.die()
	return true
}

// inner goes through a part that begins here, with its else, up to its end.
func (w *walked) inner(p *part, i impl.Ins) bool {
	if i.Op == impl.OpIf && !p.take(1) {
		return false
	}
	in := &part{outer: p, loop: i.Op == impl.OpLoop, results: i.A, under: p.under + p.own}
	w.at++
	if !w.run(in) {
		return false
	}
	if w.f.Body[w.at].Op == impl.OpElse {
		in.own, in.dead = 0, false
		w.at++
		if !w.run(in) {
			return false
		}
	} else if i.Op == impl.OpIf && i.A == 1 {
		return false
	}
	p.own += i.A
	return true
}

func (w *walked) one(p *part, i impl.Ins) bool {
	switch i.Op {
	case impl.OpTrap:
		p.die()
		return true
	case impl.OpBlock, impl.OpLoop, impl.OpIf:
		return w.inner(p, i)
	case impl.OpBr, impl.OpBrIf, impl.OpReturn:
		return w.jump(p, i)
	}
	return w.plain(p, i)
}

// run goes to the part's own else or end, and whether all is right up to it and there.
func (w *walked) run(p *part) bool {
	for ; w.at < len(w.f.Body); w.at++ {
		height := p.under + p.own
		if p.dead {
			height = -1
		}
		w.heights = append(w.heights, height)
		i := w.f.Body[w.at]
		if i.Op == impl.OpElse || i.Op == impl.OpEnd {
			return p.full()
		}
		if !w.one(p, i) {
			return false
		}
	}
	return p.full()
}

// wantWalk: what FaultAt and StackAt must tell.
func wantWalk(m impl.Module, i int) (fault int, heights []int) {
	if !impl.FormOk(m) || i < 0 || i >= len(m.Funcs) {
		return -2, nil
	}
	w := &walked{m: m, f: m.Funcs[i]}
	if !w.run(&part{results: m.Sigs[m.Funcs[i].Sig].Results}) {
		return w.at, nil
	}
	return -1, w.heights
}

// wantAsWalked: the three functions on bodies tell what the walk above does.
func wantAsWalked(t *testing.T, m impl.Module, i int) int {
	t.Helper()
	fault, heights := wantWalk(m, i)
	wantTold(t, m, i, fault, heights)
	return fault
}

package tests

import (
	"slices"
	"strings"

	"loop.example/g00472/impl"
)

// cursor goes through bytes by the document's words. Once something isn't as
// it must be it stays bad, and all that it tells from then on is nothing.
type cursor struct {
	rest []byte
	bad  bool
}

func (c *cursor) some(size int) []byte {
	if c.bad || size > len(c.rest) {
		c.bad, c.rest = true, nil
		return nil
	}
	out := c.rest[:size]
	c.rest = c.rest[size:]
	return slices.Clone(out)
}

// is: the next byte, which must be one of right, if any are named.
func (c *cursor) is(right ...byte) int {
	b := c.some(1)
	if c.bad {
		return 0
	}
	if len(right) > 0 && !slices.Contains(right, b[0]) {
		c.bad = true
	}
	return int(b[0])
}

func (c *cursor) behind(n, to int, ok bool) int {
	if !ok {
		c.bad = true
	}
	c.some(to)
	return n
}

func (c *cursor) plain() int { return c.behind(impl.GetU(c.rest, 0)) }

func (c *cursor) signed() int { return c.behind(impl.GetS(c.rest, 0)) }

func (c *cursor) name() string {
	s := string(c.some(c.plain()))
	if !impl.UtfOk(s) {
		c.bad = true
	}
	return s
}

func (c *cursor) start() int {
	c.is(65)
	n := c.signed()
	c.is(11)
	return n
}

func (c *cursor) times(n int, do func()) int {
	for k := 0; k < n && !c.bad; k++ {
		do()
	}
	return n
}

func (c *cursor) values() int { return c.times(c.plain(), func() { c.is(127) }) }

func (c *cursor) ins() impl.Ins {
	i := impl.Ins{Op: c.is()}
	k, known := knownOp(i.Op)
	if !known {
		c.bad = true
	}
	switch {
	case k.name == "block" || k.name == "loop" || k.name == "if":
		i.A = one(c.is(64, 127) == 127)
	case strings.HasPrefix(k.name, "memory."):
		c.is(0)
	case k.count == 2:
		i.B = c.plain()
		i.A = c.plain()
	case k.name == "i32.const":
		i.A = c.signed()
	case k.count == 1:
		i.A = c.plain()
	}
	return i
}

func (c *cursor) all() []impl.Ins {
	var l []impl.Ins
	for !c.bad && len(c.rest) > 0 {
		l = append(l, c.ins())
	}
	return l
}

func (c *cursor) code() impl.Func {
	in := &cursor{rest: c.some(c.plain())}
	in.bad = c.bad
	var f impl.Func
	in.times(in.plain(), func() {
		f.Locals += in.plain()
		in.is(127)
	})
	l := in.all()
	if in.bad || len(l) == 0 || l[len(l)-1].Op != impl.OpEnd {
		c.bad = true
		return impl.Func{}
	}
	f.Body = l[:len(l)-1]
	return f
}

// wantSections: the sections behind the first eight bytes, and whether code 2 isn't there.
func wantSections(b []byte) ([]chunk, bool) {
	c := &cursor{rest: b}
	order := sectionOrder()
	var l []chunk
	for len(c.rest) > 0 && !c.bad {
		number := c.is()
		at := slices.Index(order, number)
		if at < 0 {
			return nil, false
		}
		order = order[at+1:]
		l = append(l, chunk{number, c.some(c.plain())})
	}
	return l, !c.bad
}

// wantModuleParts: the parts of all sections, the Sigs of section 3, and whether code 3 isn't there.
func wantModuleParts(l []chunk) (m impl.Module, sigs []int, right bool) {
	m = noMemory()
	right = true
	for _, s := range l {
		c := &cursor{rest: s.inside}
		c.times(c.count(s.number), func() { sigs = append(sigs, c.part(s.number, &m)...) })
		right = right && !c.bad && len(c.rest) == 0
	}
	return m, sigs, right
}

// count: how many parts the section says it has: of memories, a byte; of all others, a number.
func (c *cursor) count(number int) int {
	if number == 5 {
		return c.is(0, 1)
	}
	return c.plain()
}

// part puts the next part of the section into m; it tells the Sig that stands there in section 3.
func (c *cursor) part(number int, m *impl.Module) (sigs []int) {
	switch number {
	case 1:
		c.is(96)
		params := c.values()
		m.Sigs = append(m.Sigs, impl.Sig{Params: params, Results: c.values()})
	case 2:
		module := c.name()
		name := c.name()
		c.is(0)
		m.Imports = append(m.Imports, impl.Import{Mod: module, Name: name, Sig: c.plain()})
	case 3:
		sigs = []int{c.plain()}
	case 5:
		end := c.is(0, 1)
		m.Pages = c.plain()
		if end == 1 {
			m.Most = c.plain()
		}
	case 6:
		c.is(127)
		mut := c.is(0, 1) == 1
		m.Globals = append(m.Globals, impl.Global{Mut: mut, Init: c.start()})
	case 7:
		name := c.name()
		kind := c.is()
		m.Exports = append(m.Exports, impl.Export{Name: name, Kind: kind, Index: c.plain()})
	case 10:
		m.Funcs = append(m.Funcs, c.code())
	case 11:
		c.is(0)
		at := c.start()
		m.Data = append(m.Data, impl.Data{At: at, Bytes: c.some(c.plain())})
	}
	return sigs
}

// wantModule: what ReadModule must tell, one code looked for behind the other.
func wantModule(b []byte) (impl.Module, int) {
	if !strings.HasPrefix(string(b), headBytes) {
		return impl.Module{}, 1
	}
	sections, right := wantSections(b[len(headBytes):])
	if !right {
		return impl.Module{}, 2
	}
	m, sigs, right := wantModuleParts(sections)
	if !right {
		return impl.Module{}, 3
	}
	if len(sigs) != len(m.Funcs) {
		return impl.Module{}, 4
	}
	for k, sig := range sigs {
		m.Funcs[k].Sig = sig
	}
	if !impl.FormOk(m) {
		return impl.Module{}, 5
	}
	return m, 0
}

// wantBody: what ReadBody must tell.
func wantBody(b []byte) ([]impl.Ins, bool) {
	c := &cursor{rest: b}
	l := c.all()
	wrong := func(i impl.Ins) bool { return !wantInsOk(i) }
	if c.bad || len(l) > 1500 || slices.ContainsFunc(l, wrong) {
		return nil, false
	}
	return l, true
}

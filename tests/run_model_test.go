package tests

import (
	"math/big"
	"strings"
	"testing"

	"loop.example/g00472/impl"
)

// played: a run as the tests see it. A part of a body has a pile of its own
// and is gone through by a call of its own; memory is a map of the bytes that
// aren't 0; an end that isn't the function's leaves by a panic.
type played struct {
	m       impl.Module
	bytes   map[int]byte
	pages   int
	globals []int
	in      []int
	out     []int
	fuel    int
	steps   int
	open    int
}

// halted: the End and the Why of a run that doesn't come to its end.
type halted struct{ end, why int }

func (p *played) halt(end, why int) { panic(halted{end, why}) }

func (p *played) begin() {
	if p.steps >= p.fuel {
		p.halt(impl.EndFuel, 0)
	}
	p.steps++
}

// frame: what a call has.
type frame struct {
	body   []impl.Ins
	locals []int
}

// toEnd: a part was left by coming to its end, not by a branch; toCaller:
// by leaving the function.
const (
	toEnd    = -1
	toCaller = 1 << 20
)

func lastOf(pile []int, count int) []int { return pile[len(pile)-count:] }

// part goes through the body from one place to another; it tells how many
// parts further out it was left to, and what lay on its pile then.
func (p *played) part(f *frame, from, to int) (out int, pile []int) {
	for at := from; at < to; at++ {
		i := f.body[at]
		p.begin()
		switch i.Op {
		case impl.OpBr:
			return i.A, pile
		case impl.OpReturn:
			return toCaller, pile
		case impl.OpBrIf:
			c := lastOf(pile, 1)[0]
			pile = pile[:len(pile)-1]
			if c != 0 {
				return i.A, pile
			}
		case impl.OpBlock, impl.OpLoop, impl.OpIf:
			end := pairedEnd(f.body, at)
			left, puts, rest := p.inner(f, at, end, pile)
			if left >= 0 {
				return left, puts
			}
			pile = append(rest, puts...)
			at = end
		default:
			pile = p.plain(f, i, pile)
		}
	}
	return toEnd, pile
}

// pairedEnd: the place where as many ends as begins have come.
func pairedEnd(l []impl.Ins, at int) int {
	for open := 0; ; at++ {
		switch l[at].Op {
		case impl.OpBlock, impl.OpLoop, impl.OpIf:
			open++
		case impl.OpEnd:
			open--
		}
		if open == 0 {
			return at
		}
	}
}

// pairedElse: the place of an if's else, or its end's.
func pairedElse(l []impl.Ins, at, end int) int {
	for k := at + 1; k < end; k++ {
		switch l[k].Op {
		case impl.OpBlock, impl.OpLoop, impl.OpIf:
			k = pairedEnd(l, k)
		case impl.OpElse:
			return k
		}
	}
	return end
}

// inner goes through the part that begins at a place. left is how it leaves
// the part around it too, with what lay there; else puts are its results, and
// rest is what lies below them.
func (p *played) inner(f *frame, at, end int, pile []int) (left int, puts, rest []int) {
	from, to := at+1, end
	rest = pile
	if f.body[at].Op == impl.OpIf {
		turn := pairedElse(f.body, at, end)
		c := lastOf(pile, 1)[0]
		rest = pile[:len(pile)-1]
		switch {
		case c != 0:
			to = turn
		case turn == end:
			return toEnd, nil, rest
		default:
			from = turn + 1
		}
	}
	for {
		out, own := p.part(f, from, to)
		switch {
		case out > 0:
			return out - 1, own, nil
		case out == 0 && f.body[at].Op == impl.OpLoop:
			continue
		case out == toEnd:
			// The else or the end is come to, and counts.
			p.begin()
		}
		return toEnd, lastOf(own, f.body[at].A), rest
	}
}

func (p *played) call(index int, args []int) []int {
	if index < len(p.m.Imports) {
		return p.outside(p.m.Imports[index], args)
	}
	if p.open == 100 {
		p.halt(impl.EndDeep, 0)
	}
	p.open++
	f := p.m.Funcs[index-len(p.m.Imports)]
	locals := append(append([]int{}, args...), make([]int, f.Locals)...)
	_, pile := p.part(&frame{f.Body, locals}, 0, len(f.Body))
	p.open--
	return lastOf(pile, p.m.Sigs[f.Sig].Results)
}

func (p *played) outside(i impl.Import, args []int) []int {
	sig := p.m.Sigs[i.Sig]
	switch i.Mod + "." + i.Name {
	case "io.get":
		if sig.Params == 0 && sig.Results == 1 {
			if len(p.in) == 0 {
				return []int{-1}
			}
			n := wantWrap(p.in[0])
			p.in = p.in[1:]
			return []int{n}
		}
	case "io.put":
		if sig.Params == 1 && sig.Results == 0 {
			p.out = append(p.out, wantPlain(args[0])&255)
			return nil
		}
	}
	p.halt(impl.EndTrap, impl.WhyLink)
	return nil
}

// plain does what needs no other part: it takes from the pile and puts there.
func (p *played) plain(f *frame, i impl.Ins, pile []int) []int {
	name := knownByNumber[i.Op].name
	takes, _ := usualEffect(name)
	if name == "call" {
		sig, _ := functionSig(p.m, i.A)
		takes = sig.Params
	}
	if name == "unreachable" {
		p.halt(impl.EndTrap, impl.WhyTrap)
	}
	taken := append([]int{}, lastOf(pile, takes)...)
	pile = pile[:len(pile)-takes]
	switch name {
	case "call":
		return append(pile, p.call(i.A, taken)...)
	case "nop", "drop":
		return pile
	case "select":
		if taken[2] != 0 {
			return append(pile, taken[0])
		}
		return append(pile, taken[1])
	case "i32.const":
		return append(pile, i.A)
	}
	if kind, _, _ := strings.Cut(name, "."); kind == "local" || kind == "global" {
		return append(pile, p.variable(f, name, i.A, taken)...)
	}
	return append(pile, p.number(name, i.A, taken)...)
}

func (p *played) variable(f *frame, name string, at int, taken []int) []int {
	l := f.locals
	if strings.HasPrefix(name, "global") {
		l = p.globals
	}
	if strings.HasSuffix(name, "get") {
		return []int{l[at]}
	}
	l[at] = taken[0]
	if strings.HasSuffix(name, "tee") {
		return taken
	}
	return nil
}

func (p *played) number(name string, offset int, taken []int) []int {
	switch name {
	case "memory.size":
		return []int{p.pages}
	case "memory.grow":
		return []int{p.grow(wantPlain(taken[0]))}
	case "i32.load":
		n := 0
		for k := range 4 {
			n += int(p.bytes[p.place(taken[0], offset)+k]) << (8 * k)
		}
		return []int{wantWrap(n)}
	case "i32.store":
		at := p.place(taken[0], offset)
		for k := range 4 {
			p.bytes[at+k] = byte(wantPlain(taken[1]) / (1 << (8 * k)) % 256)
		}
		return nil
	}
	n, why := wantNumber(strings.TrimPrefix(name, "i32."), append(taken, 0)[0], append(taken, 0)[1])
	if why != 0 {
		p.halt(impl.EndTrap, why)
	}
	return []int{n}
}

func (p *played) place(address, offset int) int {
	at := wantPlain(address) + offset
	if at > p.pages*65536-4 {
		p.halt(impl.EndTrap, impl.WhyMemory)
	}
	return at
}

func (p *played) grow(by int) int {
	most := 2
	if p.m.Most >= 0 && p.m.Most < most {
		most = p.m.Most
	}
	if by > most-p.pages {
		return -1
	}
	p.pages += by
	return p.pages - by
}

// wantNumber: what an operation makes of one or two numbers of 32 bits, and the Why where it makes nothing.
func wantNumber(name string, a, b int) (n, why int) {
	if k := placeIn("eq ne lt_s lt_u gt_s gt_u le_s le_u ge_s ge_u", name); k >= 0 {
		p, q := wantPlain(a), wantPlain(b)
		return one([]bool{a == b, a != b, a < b, p < q, a > b, p > q, a <= b, p <= q, a >= b, p >= q}[k]), 0
	}
	if k := placeIn("and or xor shl shr_s shr_u rotl rotr", name); k >= 0 {
		return wantBits(k+1, a, b), 0
	}
	if k := placeIn("eqz clz ctz popcnt", name); k >= 0 {
		return wantCounts(a)[k], 0
	}
	return wantReckoned(name, a, b)
}

func placeIn(names, name string) int {
	for k, s := range strings.Fields(names) {
		if s == name {
			return k
		}
	}
	return -1
}

// wantCounts: whether it is 0, the zeros ahead, the zeros behind, the ones.
func wantCounts(n int) []int {
	l := []int{one(n == 0), 32, 32, 0}
	for i, isOne := range bitsOf(n) {
		if isOne {
			l[1], l[2], l[3] = 31-i, min(l[2], i), l[3]+1
		}
	}
	return l
}

func wantReckoned(name string, a, b int) (n, why int) {
	x, y := big.NewInt(int64(a)), big.NewInt(int64(b))
	if strings.HasSuffix(name, "_u") {
		x, y = big.NewInt(int64(wantPlain(a))), big.NewInt(int64(wantPlain(b)))
	}
	z := new(big.Int)
	switch name[:3] {
	case "add":
		z.Add(x, y)
	case "sub":
		z.Sub(x, y)
	case "mul":
		z.Mul(x, y)
	default:
		if b == 0 {
			return 0, impl.WhyZero
		}
		quotient, rest := new(big.Int).QuoRem(x, y, new(big.Int))
		if z = rest; strings.HasPrefix(name, "div") {
			z = quotient
		}
		if z.Cmp(big.NewInt(impl.MaxI)) > 0 && name == "div_s" {
			return 0, impl.WhyOver
		}
	}
	return wrapBig(z), 0
}

// filled is false where one of Data doesn't fit.
func (p *played) filled() bool {
	for _, d := range p.m.Data {
		at := wantPlain(d.At)
		if at+len(d.Bytes) > p.pages*65536 {
			return false
		}
		for k, b := range d.Bytes {
			p.bytes[at+k] = b
		}
	}
	return true
}

// wantPlayed: what Run must tell.
func wantPlayed(m impl.Module, index int, args, in []int, fuel int) (r impl.Result) {
	sig, ok := functionSig(m, index)
	if !impl.ModuleOk(m) || !ok || sig.Params != len(args) {
		return bad
	}
	p := &played{m: m, bytes: map[int]byte{}, pages: max(m.Pages, 0), in: in, fuel: max(0, min(fuel, 20000))}
	for _, g := range m.Globals {
		p.globals = append(p.globals, g.Init)
	}
	wrapped := []int{}
	for _, n := range args {
		wrapped = append(wrapped, wantWrap(n))
	}
	defer func() {
		if why := recover(); why != nil {
			h := why.(halted)
			r = impl.Result{End: h.end, Why: h.why}
		}
		r.Out, r.Steps, r.Globals = p.out, p.steps, p.globals
	}()
	if !p.filled() {
		p.halt(impl.EndTrap, impl.WhyMemory)
	}
	r = impl.Result{End: impl.EndDone}
	if l := p.call(index, wrapped); len(l) > 0 {
		r.N = l[0]
	}
	return r
}

// wantAsPlayed: Run tells what the machine above does.
func wantAsPlayed(t *testing.T, m impl.Module, index int, args, in []int, fuel int) impl.Result {
	t.Helper()
	want := wantPlayed(m, index, args, in, fuel)
	wantRun(t, m, index, args, in, fuel, want)
	return want
}

package tests

import (
	"slices"
	"strings"

	"loop.example/g00472/impl"
)

// planner makes programs by a fixed rule, as trees.
type planner struct {
	next func(below int) int
}

func pick[T any](next func(int) int, l []T) T { return l[next(len(l))] }

func (g planner) name() string {
	return pick(g.next, []string{"a", "b", "x", "x1", "x_1", "aZ", "get", "put", "size", "main", "iff", "int1", "abcdefghijkl", "z23456789_12"})
}

func (g planner) number() int {
	return pick(g.next, []int{0, 1, 2, 7, 10, 100, 65536, impl.MaxI - 1, impl.MaxI, g.next(impl.MaxI)})
}

// shares: size nodes, dealt out to count.
func (g planner) shares(size, count int) []int {
	l := times(0, count)
	if count == 0 {
		return l
	}
	for range size {
		l[g.next(count)]++
	}
	return l
}

// expression: a tree of about size nodes, one at least.
func (g planner) expression(size int) tree {
	switch which := g.next(10); {
	case size <= 1 && which < 5:
		return tNum(g.number())
	case size <= 1 && which < 9:
		return tName(g.name())
	case size <= 1:
		return tCall(g.name())
	case which < 5:
		parts := g.shares(size-1, 2)
		return tBinary(pick(g.next, betweenSigns()), g.expression(parts[0]), g.expression(parts[1]))
	case which < 7:
		return tUnary(pick(g.next, aheadSigns), g.expression(size-1))
	case which < 8:
		return tAt(g.name(), g.expression(size-1))
	}
	t := tCall(g.name())
	for _, part := range g.shares(size-1, 1+g.next(3)) {
		t.kids = append(t.kids, g.expression(part))
	}
	return t
}

func (g planner) statement(size int) tree {
	two, three := g.shares(size, 2), g.shares(size, 3)
	switch g.next(9) {
	case 0:
		return tVar(g.name(), g.expression(size-1))
	case 1:
		return tSet(g.name(), g.expression(size-1))
	case 2:
		return tPut(g.name(), g.expression(two[0]), g.expression(two[1]))
	case 3, 4:
		return tIf(g.expression(two[0]), g.block(two[1]))
	case 5:
		return tIf(g.expression(three[0]), g.block(three[1]), g.block(three[2]))
	case 6:
		return tWhile(g.expression(two[0]), g.block(two[1]))
	case 7:
		return tReturn(g.expression(size - 1))
	}
	return tDo(g.expression(size - 1))
}

func (g planner) block(size int) tree { return blockOf(g.next, size, g.statement) }

// blockOf: a block of about so many nodes, of statements that are made one by one.
func blockOf(next func(int) int, size int, statement func(size int) tree) tree {
	t := tBlock()
	for size > 1 {
		part := 2 + next(size)
		t.kids = append(t.kids, statement(part-1))
		size -= part
	}
	return t
}

// names: up to most of them, or none.
func (g planner) names(most int) []string {
	var l []string
	for range g.next(most + 1) {
		l = append(l, g.name())
	}
	return l
}

// program: a program of about size nodes.
func (g planner) program(size int) (impl.Source, []tree) {
	p := impl.Source{Globals: g.names(4)}
	for _, name := range g.names(3) {
		p.Arrays = append(p.Arrays, impl.Array{Name: name, Size: g.number()})
	}
	var bodies []tree
	for _, part := range g.shares(size, g.next(4)) {
		p.Fns = append(p.Fns, impl.Fn{Name: g.name(), Params: g.names(3)})
		bodies = append(bodies, g.block(part))
	}
	return p, bodies
}

// scribe writes trees as texts, word by word, and tells where each node begins.
type scribe struct {
	text   strings.Builder
	last   string
	places []int
	toks   []impl.Tok
	// wrong: a word was written that isn't one token.
	wrong bool
	// gap: what parts two words; it may be empty where they needn't be parted.
	gap func() string
	// spare: whether an expression gets parentheses that it doesn't need.
	spare func() bool
}

// parted: the two words are two also where nothing parts them.
func parted(a, b string) bool {
	l := wantLex(a + b).toks
	return a == "" || len(l) == 2 && l[1].At == len(a)
}

// word writes it and tells its place.
func (w *scribe) word(s string) int {
	gap := w.gap()
	if gap == "" && !parted(w.last, s) {
		gap = " "
	}
	w.text.WriteString(gap)
	at := w.text.Len()
	w.text.WriteString(s)
	w.last = s
	w.places = append(w.places, at)
	l := wantLex(s).toks
	if len(l) == 1 {
		l[0].At = at
	}
	w.wrong = w.wrong || len(l) != 1
	w.toks = append(w.toks, l...)
	return at
}

func (w *scribe) words(l ...string) {
	for _, s := range l {
		w.word(s)
	}
}

// expression writes t, whose parts may need parentheses; what it tells is t with its places.
func (w *scribe) expression(t tree, parens bool) tree {
	if parens || w.spare() {
		w.word("(")
		t = w.expression(t, false)
		w.word(")")
		return t
	}
	t.kids = slices.Clone(t.kids)
	switch t.kind {
	case impl.NNum:
		t.at = w.word(impl.NumText(t.n))
	case impl.NName:
		t.at = w.word(t.s)
	case impl.NAt:
		t.at = w.word(t.s)
		w.listed("[", t.kids, "]")
	case impl.NCall:
		t.at = w.word(t.s)
		w.listed("(", t.kids, ")")
	case impl.NUnary:
		t.at = w.word(t.s)
		t.kids[0] = w.expression(t.kids[0], t.kids[0].isBinary())
	case impl.NBinary:
		own := boundLevel(t.s)
		a, b := t.kids[0], t.kids[1]
		t.kids[0] = w.expression(a, a.isBinary() && boundLevel(a.s) < own)
		t.at = w.word(t.s)
		t.kids[1] = w.expression(b, b.isBinary() && boundLevel(b.s) <= own)
	}
	return t
}

func (w *scribe) listed(begin string, l []tree, end string) {
	w.word(begin)
	for k := range l {
		if k > 0 {
			w.word(",")
		}
		l[k] = w.expression(l[k], false)
	}
	w.word(end)
}

func (w *scribe) statement(t tree) tree {
	t.kids = slices.Clone(t.kids)
	last := len(t.kids) - 1
	switch t.kind {
	case impl.NVar:
		t.at = w.word("var")
		w.words(t.s, "=")
	case impl.NSet:
		t.at = w.word(t.s)
		w.word("=")
	case impl.NPut:
		t.at = w.word(t.s)
		w.listed("[", t.kids[:1], "]")
		w.word("=")
	case impl.NReturn:
		t.at = w.word("return")
	case impl.NIf:
		t.at = w.word("if")
		return w.branches(t)
	case impl.NWhile:
		t.at = w.word("while")
		return w.branches(t)
	case impl.NDo:
		first := len(w.places)
		t.kids[0] = w.expression(t.kids[0], false)
		t.at = w.places[first]
		w.word(";")
		return t
	}
	t.kids[last] = w.expression(t.kids[last], false)
	w.word(";")
	return t
}

func (w *scribe) branches(t tree) tree {
	w.listed("(", t.kids[:1], ")")
	t.kids[1] = w.block(t.kids[1])
	if len(t.kids) == 3 {
		w.word("else")
		t.kids[2] = w.block(t.kids[2])
	}
	return t
}

func (w *scribe) block(t tree) tree {
	t.kids = slices.Clone(t.kids)
	t.at = w.word("{")
	for k := range t.kids {
		t.kids[k] = w.statement(t.kids[k])
	}
	w.word("}")
	return t
}

// program writes the parts of a program, each list in its order, one from each in turn; it tells the
// program with its places.
func (w *scribe) program(p impl.Source, bodies []tree) impl.Source {
	bodies = slices.Clone(bodies)
	for k := range max(len(p.Globals), len(p.Arrays), len(p.Fns)) {
		if k < len(p.Fns) {
			w.words("func", p.Fns[k].Name, "(")
			for i, name := range p.Fns[k].Params {
				if i > 0 {
					w.word(",")
				}
				w.word(name)
			}
			w.word(")")
			bodies[k] = w.block(bodies[k])
		}
		if k < len(p.Arrays) {
			w.words("int", p.Arrays[k].Name, "[", impl.NumText(p.Arrays[k].Size), "]", ";")
		}
		if k < len(p.Globals) {
			w.words("int", p.Globals[k], ";")
		}
	}
	return laid(p, bodies...)
}

// written: the text of the program, and the program with its places.
func written(p impl.Source, bodies []tree, gap func() string, spare func() bool) (string, impl.Source) {
	w := &scribe{gap: gap, spare: spare}
	p = w.program(p, bodies)
	return w.text.String(), p
}

func never() bool { return false }

func blank() string { return " " }

func noGap() string { return "" }

// tightText: the program's text with as few parentheses as go.
func tightText(p impl.Source, bodies []tree) string {
	s, _ := written(p, bodies, blank, never)
	return s
}

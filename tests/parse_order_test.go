package tests

import (
	"math"
	"slices"
	"strings"
	"testing"

	"loop.example/g00472/impl"
)

// copiedSource: the same program in memory of its own.
func copiedSource(p impl.Source) impl.Source {
	p.Globals, p.Arrays = slices.Clone(p.Globals), slices.Clone(p.Arrays)
	p.Fns, p.Nodes = slices.Clone(p.Fns), slices.Clone(p.Nodes)
	for k := range p.Fns {
		p.Fns[k].Params = slices.Clone(p.Fns[k].Params)
	}
	for k := range p.Nodes {
		p.Nodes[k].Kids = slices.Clone(p.Nodes[k].Kids)
	}
	return p
}

// upFrom0: the numbers from 0 on below count.
func upFrom0(count int) []int {
	l := times(0, count)
	for k := range l {
		l[k] = k
	}
	return l
}

// Each kid at each other place, and at places that there aren't: only the one that the order asks is right.
func TestForm2OfPlacesOfKids(t *testing.T) {
	p := allKinds()
	for k, n := range p.Nodes {
		for j, kid := range n.Kids {
			for _, at := range append(upFrom0(len(p.Nodes)), -1, -2, len(p.Nodes), len(p.Nodes)+1, math.MaxInt, math.MinInt, 1<<32+kid) {
				wantFormOf(t, "a kid's place", changed(p, k, func(n *impl.Node) { n.Kids[j] = at }), at == kid)
			}
			wantFormOf(t, "a kid left out", changed(p, k, func(n *impl.Node) { n.Kids = slices.Delete(n.Kids, j, j+1) }), false)
			wantFormOf(t, "a kid doubled", changed(p, k, func(n *impl.Node) { n.Kids = slices.Insert(n.Kids, j, kid) }), false)
			for i := range j {
				wantFormOf(t, "kids in another order", changed(p, k, func(n *impl.Node) { n.Kids[i], n.Kids[j] = n.Kids[j], n.Kids[i] }), false)
			}
		}
		for at := range p.Nodes {
			wantFormOf(t, "a kid more", changed(p, k, func(n *impl.Node) { n.Kids = append(n.Kids, at) }), false)
		}
		wantFormOf(t, "no kids", changed(p, k, func(n *impl.Node) { n.Kids = nil }), len(n.Kids) == 0)
		wantFormOf(t, "very many kids", changed(p, k, func(n *impl.Node) { n.Kids = make([]int, 1<<16) }), false)
		wantFormOf(t, "kids that are itself", changed(p, k, func(n *impl.Node) { n.Kids = times(k, len(n.Kids)) }), len(n.Kids) == 0)
	}
}

// withoutNode: p without the node; the nodes behind it move up, and so do the places that name them.
func withoutNode(p impl.Source, at int) impl.Source {
	p = copiedSource(p)
	p.Nodes = slices.Delete(p.Nodes, at, at+1)
	for k := range p.Nodes {
		for j, kid := range p.Nodes[k].Kids {
			if kid > at {
				p.Nodes[k].Kids[j]--
			}
		}
	}
	for k := range p.Fns {
		if p.Fns[k].Body > at {
			p.Fns[k].Body--
		}
	}
	return p
}

func TestForm2OfNodesTooManyAndTooFew(t *testing.T) {
	p := allKinds()
	for k := range p.Nodes {
		cut := copiedSource(p)
		cut.Nodes = cut.Nodes[:k]
		wantFormOf(t, "nodes cut off", cut, false)
		wantFormAsModel(t, "a node left out", withoutNode(p, k))
		for _, n := range []impl.Node{{}, {Kind: impl.NNum}, {Kind: impl.NBlock}, p.Nodes[k]} {
			more := copiedSource(p)
			more.Nodes = append(more.Nodes, n)
			wantFormOf(t, "a node more", more, false)
		}
		for j := range k {
			swapped := copiedSource(p)
			swapped.Nodes[j], swapped.Nodes[k] = swapped.Nodes[k], swapped.Nodes[j]
			wantFormAsModel(t, "two nodes in another order", swapped)
		}
	}
	// Nodes that no function comes to, ahead of others and between them.
	wantFormOf(t, "a node between", ofNodes(impl.Node{Kind: impl.NBlock, Kids: []int{2}}, impl.Node{Kind: impl.NNum}, impl.Node{Kind: impl.NDo, Kids: []int{3}}, impl.Node{Kind: impl.NNum}), false)
	ahead := impl.Source{Fns: []impl.Fn{{Name: "f", Body: 1}}, Nodes: []impl.Node{{Kind: impl.NNum}, {Kind: impl.NBlock}}}
	wantFormOf(t, "a node ahead", ahead, false)
	// One node as the kid of two, and a round.
	wantFormOf(t, "one kid of two", ofNodes(impl.Node{Kind: impl.NBlock, Kids: []int{1, 3}}, impl.Node{Kind: impl.NDo, Kids: []int{2}}, impl.Node{Kind: impl.NNum}, impl.Node{Kind: impl.NDo, Kids: []int{2}}), false)
	wantFormOf(t, "a round", ofNodes(impl.Node{Kind: impl.NBlock, Kids: []int{1}}, impl.Node{Kind: impl.NDo, Kids: []int{2}}, impl.Node{Kind: impl.NUnary, S: "-", Kids: []int{1}}), false)
	// Kids that stand right, but in breadth first.
	wantFormOf(t, "breadth first", ofNodes(impl.Node{Kind: impl.NBlock, Kids: []int{1, 2}}, impl.Node{Kind: impl.NDo, Kids: []int{3}}, impl.Node{Kind: impl.NDo, Kids: []int{4}}, impl.Node{Kind: impl.NNum}, impl.Node{Kind: impl.NNum}), false)
}

func TestForm2OfBodies(t *testing.T) {
	p := allKinds()
	for k, f := range p.Fns {
		for _, at := range append(upFrom0(len(p.Nodes)), -1, len(p.Nodes), math.MaxInt, math.MinInt) {
			q := copiedSource(p)
			q.Fns[k].Body = at
			wantFormOf(t, "a body's place", q, at == f.Body)
		}
		for j := range k {
			q := copiedSource(p)
			q.Fns[j], q.Fns[k] = q.Fns[k], q.Fns[j]
			wantFormOf(t, "bodies in another order", q, false)
			q.Fns[j].Body, q.Fns[k].Body = q.Fns[k].Body, q.Fns[j].Body
			wantFormOf(t, "functions in another order, with the bodies in theirs", q, true)
		}
		q := copiedSource(p)
		q.Fns = slices.Delete(q.Fns, k, k+1)
		wantFormOf(t, "a function left out", q, false)
		q = copiedSource(p)
		q.Fns = slices.Insert(q.Fns, k, f)
		wantFormOf(t, "two functions with one body", q, false)
	}
	// A body that isn't a block.
	for _, body := range []tree{tNum(1), tName("x"), tDo(tNum(1)), tReturn(tNum(1)), tCall("f"), tIf(tNum(1), tBlock()), {}} {
		wantFormOf(t, "a body of another kind", laid(impl.Source{Fns: []impl.Fn{{Name: "main"}}}, body), false)
		wantFormOf(t, "a second body of another kind", laid(impl.Source{Fns: []impl.Fn{{Name: "f"}, {Name: "g"}}}, tBlock(), body), false)
	}
	none := impl.Source{Fns: []impl.Fn{{Name: "f"}, {Name: "g"}}, Nodes: []impl.Node{{Kind: impl.NBlock}}}
	wantFormOf(t, "a function without a block", none, false)
	none.Fns[1].Body = 1
	wantFormOf(t, "a function whose block is none", none, false)
}

// grownTree: a tree that lies within itself so many times.
func grownTree(count int, inner tree, around func(tree) tree) tree {
	for range count {
		inner = around(inner)
	}
	return inner
}

// What lies at most, and one more, in the text that has as few parentheses as go; most 0: as often as there are nodes.
func TestForm2OfDepth(t *testing.T) {
	one := tNum(1)
	minusRight := func(e tree) tree { return tBinary("-", tNum(1), e) }
	for what, c := range map[string]struct {
		most   int
		around func(tree) tree
	}{
		"signs ahead":              {56, func(e tree) tree { return tUnary("-", e) }},
		"indexes":                  {28, func(e tree) tree { return tAt("a", e) }},
		"arguments":                {28, func(e tree) tree { return tCall("f", e) }},
		"second arguments":         {28, func(e tree) tree { return tCall("f", tNum(1), e) }},
		"the same on the left":     {0, func(e tree) tree { return tBinary("-", e, tNum(1)) }},
		"the same on the right":    {29, minusRight},
		"a level less on the left": {18, func(e tree) tree { return tUnary("-", tBinary("+", e, tNum(1))) }},
	} {
		most := c.most
		if most == 0 {
			most = 390
		}
		for _, count := range []int{0, 1, most - 1, most} {
			wantFormOf(t, what, mainOf(tReturn(grownTree(count, one, c.around))), true)
		}
		for _, count := range []int{most + 1, most + 2, most + 50} {
			if c.most == 0 {
				count = 800
			}
			wantFormOf(t, what, mainOf(tReturn(grownTree(count, one, c.around))), false)
		}
	}
	whiles := func(b tree) tree { return tBlock(tWhile(tNum(1), b)) }
	ifs := func(b tree) tree { return tBlock(tIf(tNum(1), b)) }
	elses := func(b tree) tree { return tBlock(tIf(tNum(1), tBlock(), b)) }
	for _, around := range []func(tree) tree{whiles, ifs, elses} {
		for count, right := range map[int]bool{0: true, 28: true, 29: true, 30: false, 31: false, 60: false, 100: false} {
			wantFormOf(t, "blocks", laid(impl.Source{Fns: []impl.Fn{{Name: "f"}}}, grownTree(count, tBlock(), around)), right)
		}
		for _, inner := range []tree{tDo(one), tSet("x", one), tVar("x", one), tReturn(one), tPut("a", one, one), tDo(tAt("a", one)), tDo(tCall("f")), tDo(tUnary("-", one)), tDo(tBinary("+", one, tBinary("*", one, one))), tDo(tBinary("*", one, tBinary("+", one, one))), tPut("a", tUnary("-", one), one), tPut("a", one, tUnary("-", one))} {
			for count := range 32 {
				wantFormAsModel(t, "a statement in blocks", laid(impl.Source{Fns: []impl.Fn{{Name: "f"}}}, grownTree(count, tBlock(inner), around)))
			}
		}
	}
}

// Each pair of signs, one within the other, on both sides, where a pair of parentheses more would lie too deep.
func TestForm2CountsNeededParenthesesAlone(t *testing.T) {
	deep := func(e tree) impl.Source {
		return mainOf(tReturn(grownTree(28, e, func(e tree) tree { return tAt("a", e) })))
	}
	for _, s := range betweenSigns() {
		wantFormOf(t, "two operands", deep(tBinary(s, tNum(1), tNum(2))), true)
		wantFormOf(t, "a sign within one ahead", deep(tUnary("-", tBinary(s, tNum(1), tNum(2)))), false)
		wantFormOf(t, "one ahead within a sign", deep(tBinary(s, tUnary("-", tNum(1)), tNum(2))), false)
		for _, r := range betweenSigns() {
			left := deep(tBinary(s, tBinary(r, tNum(1), tNum(2)), tNum(3)))
			right := deep(tBinary(s, tNum(1), tBinary(r, tNum(2), tNum(3))))
			wantFormOf(t, "on the left of "+s+": "+r, left, boundLevel(r) >= boundLevel(s))
			wantFormOf(t, "on the right of "+s+": "+r, right, boundLevel(r) > boundLevel(s))
		}
	}
}

// What the text's length is isn't asked.
func TestForm2OfLongPrograms(t *testing.T) {
	long := laid(impl.Source{Globals: times("abcdefghijkl", 2000), Fns: []impl.Fn{{Name: "f", Params: times("abcdefghijkl", 2000)}}}, tBlock())
	wantFormOf(t, "many names", long, true)
	if s := impl.PrintSource(long); len(s) < impl.MaxText || parseOf(s).code != tooLongText {
		t.Errorf("the text of many names has %d bytes", len(s))
	}
	most := mainOf(times(tDo(tName("abcdefghijkl")), 399)...)
	wantFormOf(t, "799 nodes", most, true)
	wantFormOf(t, "800 nodes", mainOf(append(times(tDo(tName("x")), 398), tDo(tUnary("-", tNum(1))))...), true)
	wantFormOf(t, "801 nodes", mainOf(times(tDo(tName("x")), 400)...), false)
	wantFormOf(t, "many nodes", mainOf(times(tDo(tName("x")), 4000)...), false)
	wantFormOf(t, "800 functions", laid(impl.Source{Fns: times(impl.Fn{Name: "f"}, 800)}, times(tBlock(), 800)...), true)
	wantFormOf(t, "801 functions", laid(impl.Source{Fns: times(impl.Fn{Name: "f"}, 801)}, times(tBlock(), 801)...), false)
	wantFormOf(t, "a long text of one node", mainOf(tDo(tName(strings.Repeat("a", 1<<20)))), false)
}

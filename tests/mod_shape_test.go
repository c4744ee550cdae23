package tests

import (
	"strings"
	"testing"

	"loop.example/g00472/impl"
)

// wantShapes holds the three functions against the words of the chapter, at
// each place of the shape and beside it.
func wantShapes(t *testing.T, s string) {
	t.Helper()
	l := spelt(s)
	if ok := impl.ShapeOk(l); ok != wantShape(s) {
		t.Errorf("ShapeOk of %q is %v", s, ok)
	}
	for at := -2; at <= len(l)+2; at++ {
		if end := impl.EndOf(l, at); end != wantEnd(s, at) {
			t.Errorf("EndOf of %q at %d is %d, not %d", s, at, end, wantEnd(s, at))
		}
		if other := impl.ElseOf(l, at); other != wantElse(s, at) {
			t.Errorf("ElseOf of %q at %d is %d, not %d", s, at, other, wantElse(s, at))
		}
	}
}

func TestShapesOfFewInstructions(t *testing.T) {
	for _, s := range spellings("blise", 6) {
		wantShapes(t, s)
	}
	for _, s := range spellings("ise", 9) {
		wantShapes(t, s)
	}
	for _, s := range spellings("bisen?", 5) {
		wantShapes(t, s)
	}
}

func TestShapesWrittenOut(t *testing.T) {
	right := []string{"", "n", "be", "le", "ie", "ise", "bele", "iisesisee", "ibenslee", "binsnee", "blibeseee"}
	wrong := []string{"b", "e", "s", "eb", "bse", "lse", "isse", "ibsee", "ilsee", "ies", "ises", "is", "se", "sie", "bee", "bbe", "isibsee", "iseises"}
	for _, s := range right {
		if !impl.ShapeOk(spelt(s)) {
			t.Errorf("%q is refused", s)
		}
	}
	for _, s := range wrong {
		if impl.ShapeOk(spelt(s)) {
			t.Errorf("%q is taken", s)
		}
	}
}

// In a right shape each begin has its end, and an else lies between.
func TestRightShapesHaveTheirEnds(t *testing.T) {
	for _, s := range spellings("bise", 8) {
		l := spelt(s)
		if !impl.ShapeOk(l) {
			continue
		}
		var taken, elses int
		for at, c := range s {
			end, other := impl.EndOf(l, at), impl.ElseOf(l, at)
			if (c == 'b' || c == 'i') != (end > at) || end >= 0 && s[end] != 'e' {
				t.Errorf("EndOf of %q at %d is %d", s, at, end)
			}
			if end > 0 {
				taken++
			}
			if other >= 0 {
				elses++
				if s[other] != 's' || other < at || other > end {
					t.Errorf("ElseOf of %q at %d is %d", s, at, other)
				}
			}
		}
		if taken != strings.Count(s, "e") || elses != strings.Count(s, "s") {
			t.Errorf("%q has %d ends and %d elses by its places", s, taken, elses)
		}
	}
}

// Only the operation counts: what A and B are doesn't, right or not.
func TestShapesAskOperationsAlone(t *testing.T) {
	l := []impl.Ins{{Op: impl.OpIf, A: 7, B: -3}, {Op: impl.OpElse, A: 2}, {Op: 99, A: 1}, {Op: impl.OpEnd, B: 9}}
	if !impl.ShapeOk(l) || impl.EndOf(l, 0) != 3 || impl.ElseOf(l, 0) != 1 {
		t.Errorf("ShapeOk, EndOf, ElseOf are %v, %d, %d", impl.ShapeOk(l), impl.EndOf(l, 0), impl.ElseOf(l, 0))
	}
	for _, k := range knownOps() {
		if k.op == impl.OpElse || k.op == impl.OpEnd {
			continue
		}
		begins := strings.Contains(" block loop if ", " "+k.name+" ")
		l := []impl.Ins{{Op: k.op}, {Op: impl.OpEnd}}
		if impl.ShapeOk(l) != begins || (impl.EndOf(l, 0) == 1) != begins {
			t.Errorf("%s begins or doesn't: ShapeOk %v, EndOf %d", k.name, impl.ShapeOk(l), impl.EndOf(l, 0))
		}
	}
}

func TestShapesAtNoPlace(t *testing.T) {
	for _, s := range []string{"", "b", "ise", "isebele"} {
		l := spelt(s)
		for _, at := range noPlaces(len(l)) {
			if at >= 0 && at < len(l) {
				continue
			}
			if end, other := impl.EndOf(l, at), impl.ElseOf(l, at); end != -1 || other != -1 {
				t.Errorf("of %q at %d EndOf is %d, ElseOf %d", s, at, end, other)
			}
		}
	}
	if !impl.ShapeOk(nil) || impl.EndOf(nil, 0) != -1 || impl.ElseOf(nil, 0) != -1 {
		t.Error("of nil ShapeOk, EndOf or ElseOf isn't what it is of the empty list")
	}
}

// Long and deep shapes are gone through within a moment.
func TestLongAndDeepShapes(t *testing.T) {
	const deep = 300000
	s := strings.Repeat("i", deep) + strings.Repeat("se", deep)
	l := spelt(s)
	if !impl.ShapeOk(l) || impl.EndOf(l, 0) != 3*deep-1 || impl.ElseOf(l, 0) != 3*deep-2 || impl.EndOf(l, deep-1) != deep+1 || impl.ElseOf(l, deep-1) != deep {
		t.Error("a deep shape isn't told")
	}
	if impl.ShapeOk(l[1:]) || impl.ShapeOk(l[:len(l)-1]) || impl.EndOf(l[:len(l)-1], 0) != -1 || impl.ElseOf(l[:len(l)-1], 0) != -1 {
		t.Error("a deep shape that lacks one is taken")
	}
	wide := spelt("i" + strings.Repeat("isebe", deep) + "se")
	if !impl.ShapeOk(wide) || impl.EndOf(wide, 0) != 5*deep+2 || impl.ElseOf(wide, 0) != 5*deep+1 {
		t.Error("a wide shape isn't told")
	}
}

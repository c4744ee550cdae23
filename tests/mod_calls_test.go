package tests

import (
	"reflect"
	"slices"
	"testing"

	"loop.example/g00472/impl"
)

// allOfBody: what each function of chapter 4 on bodies tells of l.
func allOfBody(l []impl.Ins) []int {
	out := []int{one(impl.ShapeOk(l))}
	for at := -1; at <= len(l)+1; at++ {
		out = append(out, impl.EndOf(l, at), impl.ElseOf(l, at))
	}
	back, ok := impl.TextBody(impl.BodyText(l))
	return append(out, one(slices.Equal(back, l)), one(ok))
}

// bodies: right and wrong bodies, with room behind them.
func bodies() [][]impl.Ins {
	l := [][]impl.Ins{nil, {}, rightIns()}
	for _, s := range []string{"b", "e", "isebe", "ibsee", "isse", "biseenlee", "n?n", "lliseneee"} {
		body := spelt(s)
		l = append(l, body, slices.Grow(slices.Clone(body), 50)[:len(body)], body[:len(body)/2])
	}
	return l
}

func TestBodiesAreLeftAsTheyWere(t *testing.T) {
	for _, l := range bodies() {
		whole := l[:cap(l)]
		kept := slices.Clone(whole)
		first := allOfBody(l)
		if !slices.Equal(whole, kept) {
			t.Errorf("a body of %d instructions was changed, or what lies behind it", len(l))
		}
		if then := allOfBody(l); !slices.Equal(first, then) {
			t.Errorf("of a body of %d instructions first %v, then %v", len(l), first, then)
		}
		if of := allOfBody(slices.Clone(kept[:len(l)])); !slices.Equal(first, of) {
			t.Errorf("a body of %d instructions isn't what its copy is", len(l))
		}
	}
}

func TestNilAndEmptyBodiesAreOne(t *testing.T) {
	if !slices.Equal(allOfBody(nil), allOfBody([]impl.Ins{})) || impl.BodyText(nil) != "" || impl.BodyText([]impl.Ins{}) != "" {
		t.Error("nil is told from the empty body")
	}
	l, ok := impl.TextBody("")
	if len(l) != 0 || !ok {
		t.Errorf("the empty text is %v, %v", l, ok)
	}
}

func TestTextBodyIsNewEachTime(t *testing.T) {
	const s = "block 1;i32.const 7;end;drop"
	first, _ := impl.TextBody(s)
	again, _ := impl.TextBody(s)
	for k := range first[:cap(first)] {
		first[:cap(first)][k] = impl.Ins{Op: 99, A: 99, B: 99}
	}
	if third, ok := impl.TextBody(s); !ok || impl.BodyText(again) != s || !slices.Equal(third, again) {
		t.Errorf("what is written into an answer is seen in another: %v, %v", again, third)
	}
}

// copied: the same module in memory of its own.
func copied(m impl.Module) impl.Module {
	m.Sigs = slices.Clone(m.Sigs)
	m.Imports = slices.Clone(m.Imports)
	m.Globals = slices.Clone(m.Globals)
	m.Exports = slices.Clone(m.Exports)
	m.Funcs = slices.Clone(m.Funcs)
	for k := range m.Funcs {
		m.Funcs[k].Body = slices.Clone(m.Funcs[k].Body)
	}
	m.Data = slices.Clone(m.Data)
	for k := range m.Data {
		m.Data[k].Bytes = slices.Clone(m.Data[k].Bytes)
	}
	return m
}

func TestModulesAreLeftAsTheyWere(t *testing.T) {
	wrong := wholeModule()
	wrong.Data[1].At = impl.MaxI + 1
	for k, m := range []impl.Module{{}, wholeModule(), wrong} {
		kept := copied(m)
		first := impl.FormOk(m)
		if !reflect.DeepEqual(m, kept) {
			t.Errorf("module %d was changed", k)
		}
		if impl.FormOk(m) != first || impl.FormOk(kept) != first || first != (k < 2) {
			t.Errorf("FormOk of module %d isn't %v each time", k, k < 2)
		}
	}
}

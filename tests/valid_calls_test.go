package tests

import (
	"reflect"
	"slices"
	"testing"

	"loop.example/g00472/impl"
)

// allOfRules: what each function of chapter 6 tells of m.
func allOfRules(m impl.Module) []any {
	out := []any{impl.ModuleOk(m)}
	for i := -1; i <= len(m.Imports)+len(m.Funcs); i++ {
		sig, there := impl.SigOf(m, i)
		l, ok := impl.StackAt(m, i)
		out = append(out, sig, there, impl.FaultAt(m, i), nilIfEmpty(l), ok, impl.MaxStack(m, i))
	}
	return out
}

// ruledModules: right ones and wrong ones of many kinds.
func ruledModules(t *testing.T) []impl.Module {
	l := append(ownModules(), rightModule(t), around(t, 0, "drop"), around(t, 1, "unreachable;block 0;drop;end"))
	for _, c := range heightCases() {
		l = append(l, around(t, c.results, c.text))
	}
	twice := rightModule(t)
	twice.Exports[1].Name = "f"
	wrong := rightModule(t)
	wrong.Most = 0
	return append(l, twice, wrong)
}

func TestModulesAreLeftAsTheyWereByRules(t *testing.T) {
	for k, m := range ruledModules(t) {
		kept := copied(m)
		first := allOfRules(m)
		if !reflect.DeepEqual(m, kept) {
			t.Errorf("module %d was changed", k)
		}
		if then := allOfRules(m); !reflect.DeepEqual(first, then) {
			t.Errorf("of module %d first %v, then %v", k, first, then)
		}
		if of := allOfRules(kept); !reflect.DeepEqual(first, of) {
			t.Errorf("module %d isn't what its copy is", k)
		}
		if of := allOfRules(nilled(kept)); !reflect.DeepEqual(first, of) {
			t.Errorf("module %d with nil for empty lists is told from itself", k)
		}
	}
}

// What lies behind a list in its room is neither read nor written.
func TestRoomBehindListsIsLeft(t *testing.T) {
	m := rightModule(t)
	m.Sigs = slices.Grow(m.Sigs, 40)
	m.Funcs = slices.Grow(m.Funcs, 40)
	m.Globals = slices.Grow(m.Globals, 40)
	m.Exports = slices.Grow(m.Exports, 40)
	for k := range m.Funcs {
		m.Funcs[k].Body = slices.Grow(m.Funcs[k].Body, 40)
		fill(m.Funcs[k].Body[len(m.Funcs[k].Body):], impl.Ins{Op: 99, A: 99})
	}
	fill(m.Sigs[len(m.Sigs):], impl.Sig{Params: 99})
	fill(m.Globals[len(m.Globals):], impl.Global{Init: 99})
	fill(m.Exports[len(m.Exports):], impl.Export{Name: "f"})
	if !reflect.DeepEqual(allOfRules(m), allOfRules(rightModule(t))) {
		t.Error("what lies behind a list is told")
	}
	for k, f := range m.Funcs {
		for _, i := range f.Body[len(f.Body):cap(f.Body)] {
			if i != (impl.Ins{Op: 99, A: 99}) {
				t.Errorf("what lies behind body %d is now %v", k, i)
			}
		}
	}
}

// What is written into an answer is seen in no other answer, and not in the module.
func TestHeightsAreNewEachTime(t *testing.T) {
	m := rightModule(t)
	kept := copied(m)
	first, _ := impl.StackAt(m, 0)
	again, _ := impl.StackAt(m, 0)
	other, _ := impl.StackAt(m, 1)
	want := slices.Clone(again)
	fill(first, 99)
	third, ok := impl.StackAt(m, 0)
	if !ok || !slices.Equal(again, want) || !slices.Equal(third, want) || !slices.Equal(other, []int{0}) {
		t.Errorf("what is written into an answer is seen in another: %v, %v, %v", again, third, other)
	}
	if !reflect.DeepEqual(m, kept) {
		t.Error("what is written into an answer is seen in the module")
	}
	fill(m.Funcs[0].Body, impl.Ins{Op: 99})
	if !slices.Equal(again, want) {
		t.Errorf("what is written into the module is seen in an answer: %v", again)
	}
}

// The answers of one module don't hang on which were asked ahead of it.
func TestAnswersHangOnTheModuleAlone(t *testing.T) {
	l := ruledModules(t)
	var first [][]any
	for _, m := range l {
		first = append(first, allOfRules(m))
	}
	for k := len(l) - 1; k >= 0; k-- {
		if !reflect.DeepEqual(allOfRules(l[k]), first[k]) {
			t.Errorf("module %d is told otherwise behind others", k)
		}
	}
}

// The greatest module there may be is gone through within a moment.
func TestGreatestModules(t *testing.T) {
	const half = impl.MaxBody / 2
	body := bodyOf(t, joined(many("block 1", half-1), "i32.const 1;nop", many("end", half-1)))
	m := impl.Module{Sigs: times(impl.Sig{Params: 60, Results: 1}, 30), Pages: 2, Most: 65536}
	m.Funcs = times(impl.Func{Sig: 29, Locals: 60, Body: body}, impl.MaxFuncs)
	if !impl.ModuleOk(m) {
		t.Error("the greatest module isn't right")
	}
	m.Funcs[59].Body = body[:len(body)-1]
	if impl.ModuleOk(m) || impl.FaultAt(m, 0) != -2 {
		t.Error("its last body lacks an end")
	}
	m.Funcs[59].Body = append(slices.Clone(body[:len(body)-1]), impl.Ins{Op: impl.OpNop})
	if impl.ModuleOk(m) {
		t.Error("its last body lacks an end, and is as long as may be")
	}
}

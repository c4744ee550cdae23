package tests

import (
	"testing"

	"loop.example/g00472/impl"
)

// changes: of the whole module each field changed, with the form still right.
func changes() []func(m *impl.Module) {
	return []func(m *impl.Module){
		func(m *impl.Module) { m.Sigs[0].Params = 1 },
		func(m *impl.Module) { m.Sigs[0].Results = 1 },
		func(m *impl.Module) { m.Sigs[0], m.Sigs[1] = m.Sigs[1], m.Sigs[0] },
		func(m *impl.Module) { m.Sigs = append(m.Sigs, impl.Sig{}) },
		func(m *impl.Module) { m.Imports[0].Mod = "enw" },
		func(m *impl.Module) { m.Imports[0].Mod, m.Imports[0].Name = "envt", "ell" },
		func(m *impl.Module) { m.Imports[0].Name = "" },
		func(m *impl.Module) { m.Imports[1].Sig = 1 },
		func(m *impl.Module) { m.Imports = m.Imports[:1] },
		func(m *impl.Module) { m.Funcs[0].Sig = 1 },
		func(m *impl.Module) { m.Funcs[0].Locals = 1 },
		func(m *impl.Module) { m.Funcs[1].Locals = 4 },
		func(m *impl.Module) { m.Funcs[1].Body = spelt("n") },
		func(m *impl.Module) { m.Funcs[0].Body[0].A = 1 },
		func(m *impl.Module) { m.Funcs[0].Body[0].Op = impl.OpLoop },
		func(m *impl.Module) { m.Funcs[0], m.Funcs[1] = m.Funcs[1], m.Funcs[0] },
		func(m *impl.Module) { m.Funcs = m.Funcs[:1] },
		func(m *impl.Module) { m.Pages = 2 },
		func(m *impl.Module) { m.Pages = 0 },
		func(m *impl.Module) { m.Most = 3 },
		func(m *impl.Module) { m.Most = -1 },
		func(m *impl.Module) { m.Pages, m.Most = -1, -1 },
		func(m *impl.Module) { m.Globals[0].Mut = false },
		func(m *impl.Module) { m.Globals[1].Mut = true },
		func(m *impl.Module) { m.Globals[1].Init = -7 },
		func(m *impl.Module) { m.Globals = nil },
		func(m *impl.Module) { m.Exports[0].Name = "F" },
		func(m *impl.Module) { m.Exports[0].Kind = 3 },
		func(m *impl.Module) { m.Exports[2].Index = 0 },
		func(m *impl.Module) { m.Exports = m.Exports[:2] },
		func(m *impl.Module) { m.Data[0].At = 13 },
		func(m *impl.Module) { m.Data[0].Bytes[2] = 254 },
		func(m *impl.Module) { m.Data[0].Bytes = m.Data[0].Bytes[:2] },
		func(m *impl.Module) { m.Data[1].Bytes = []byte{0} },
		func(m *impl.Module) { m.Data = m.Data[:1] },
	}
}

func TestModulesThatDifferInOneField(t *testing.T) {
	for k, change := range changes() {
		m := wholeModule()
		change(&m)
		if impl.SameModule(m, wholeModule()) || impl.SameModule(wholeModule(), m) {
			t.Errorf("change %d is not seen", k)
		}
		if !impl.SameModule(m, copied(m)) {
			t.Errorf("with change %d it isn't the same as itself", k)
		}
	}
}

func TestModulesThatAreTheSame(t *testing.T) {
	l := append(ownModules(), subsets()...)
	for a, m := range l {
		for b, n := range l {
			if same := impl.SameModule(m, n); same != alike(m, n) {
				t.Errorf("modules %d and %d are the same: %v", a, b, same)
			}
		}
	}
}

// Lists without elements and nil are the same.
func TestModulesWithEmptyLists(t *testing.T) {
	empty := impl.Module{Sigs: []impl.Sig{}, Imports: []impl.Import{}, Funcs: []impl.Func{}, Globals: []impl.Global{}, Exports: []impl.Export{}, Data: []impl.Data{}}
	if !impl.SameModule(empty, impl.Module{}) || !impl.SameModule(impl.Module{}, empty) {
		t.Error("a module with empty lists isn't the same as one without")
	}
	m := wholeModule()
	m.Funcs[1].Body, m.Data[1].Bytes = []impl.Ins{}, []byte{}
	if !impl.SameModule(m, wholeModule()) {
		t.Error("an empty Body or empty Bytes aren't the same as nil")
	}
}

// A module whose form isn't right is the same as none, not even as itself.
func TestModulesOfWrongFormAreNeverTheSame(t *testing.T) {
	for _, f := range fieldCases() {
		for _, n := range []int{f.least - 1, f.most + 1} {
			m := wholeModule()
			f.set(&m, n)
			if impl.FormOk(m) {
				continue
			}
			for _, other := range []impl.Module{m, copied(m), wholeModule(), {}, noMemory()} {
				if impl.SameModule(m, other) || impl.SameModule(other, m) {
					t.Errorf("%s %d: the same as %+v", f.what, n, other)
				}
			}
		}
	}
}

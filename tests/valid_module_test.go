package tests

import (
	"strings"
	"testing"

	"loop.example/g00472/impl"
)

// rightModule: a right module that has something of everything.
func rightModule(t *testing.T) impl.Module {
	t.Helper()
	m := around(t, 1, "local.get 0;if 1;call 0;else;i32.const 3;end")
	m.Exports = []impl.Export{{Name: "f", Index: 2}, {Name: "m", Kind: 2}, {Name: "g", Kind: 3, Index: 1}, {Name: "", Index: 0}}
	m.Data = []impl.Data{{At: 12, Bytes: []byte{1, 2, 255}}, {At: -1}}
	return m
}

// moduleCase: a change of the module above, and whether it is right then.
type moduleCase struct {
	what   string
	change func(m *impl.Module)
	want   bool
}

func wantModules(t *testing.T, cases []moduleCase) {
	t.Helper()
	for _, c := range cases {
		m := rightModule(t)
		c.change(&m)
		if ok := impl.ModuleOk(m); ok != c.want {
			t.Errorf("%s: ModuleOk is %v", c.what, ok)
		}
	}
}

func TestModuleOkOfWholeModules(t *testing.T) {
	wantModules(t, []moduleCase{
		{"as it stands", func(m *impl.Module) {}, true},
		{"nothing in it", func(m *impl.Module) { *m = impl.Module{} }, true},
		{"nothing in it, no memory", func(m *impl.Module) { *m = noMemory() }, true},
		{"a wrong form", func(m *impl.Module) { m.Most = 0 }, false},
		{"one Sig too few", func(m *impl.Module) { m.Sigs = m.Sigs[:4] }, false},
		{"a name of 41 bytes", func(m *impl.Module) { m.Exports[0].Name = strings.Repeat("x", 41) }, false},
		{"a name that is no text", func(m *impl.Module) { m.Exports[0].Name = "\xff" }, false},
		{"an import's name of 41 bytes", func(m *impl.Module) { m.Imports[1].Mod = strings.Repeat("x", 41) }, false},
	})
}

// One wrong body is enough, wherever it stands; FaultAt tells which.
func TestModuleOkOfBodies(t *testing.T) {
	for i := range 3 {
		for _, text := range []string{"drop", "i32.const 1;i32.const 2", "br 1", "call 5", "local.get 9;return", "block 0;i32.const 1;end"} {
			m := rightModule(t)
			m.Funcs[i].Body = bodyOf(t, text)
			for k := range 3 {
				if right := impl.FaultAt(m, k) == -1; right != (k != i) {
					t.Errorf("with %q as body %d body %d is %v", text, i, k, right)
				}
			}
			if impl.ModuleOk(m) {
				t.Errorf("ModuleOk with %q as body %d", text, i)
			}
		}
	}
}

// No two Exports have one Name, be they of different Kinds or far from each other.
func TestModuleOkOfNames(t *testing.T) {
	for a := range 4 {
		for b := range 4 {
			m := rightModule(t)
			m.Exports[a].Name = m.Exports[b].Name
			if ok := impl.ModuleOk(m); ok != (a == b) {
				t.Errorf("with the name of export %d as that of %d ModuleOk is %v", b, a, ok)
			}
		}
	}
	wantModules(t, []moduleCase{
		{"one thing under two names", func(m *impl.Module) { m.Exports[3] = impl.Export{Name: "h", Index: 2} }, true},
		{"the same export twice", func(m *impl.Module) { m.Exports = append(m.Exports, m.Exports[0]) }, false},
		{"names that differ in their last byte", func(m *impl.Module) { m.Exports[0].Name, m.Exports[1].Name = "abc", "abd" }, true},
		{"names one of which begins the other", func(m *impl.Module) { m.Exports[0].Name, m.Exports[1].Name = "ab", "abc" }, true},
		{"names in large and small letters", func(m *impl.Module) { m.Exports[0].Name, m.Exports[1].Name = "a", "A" }, true},
		{"two empty names", func(m *impl.Module) { m.Exports[0].Name = "" }, false},
		{"two imports of one name", func(m *impl.Module) { m.Imports[0].Name = m.Imports[1].Name }, true},
		{"an import's name", func(m *impl.Module) { m.Exports[0].Name = m.Imports[0].Name }, true},
	})
	full := rightModule(t)
	full.Exports = nil
	for k := range impl.MaxFuncs {
		full.Exports = append(full.Exports, impl.Export{Name: impl.NumText(k), Index: k % 5})
	}
	if !impl.ModuleOk(full) {
		t.Error("60 exports of 60 names aren't right")
	}
	full.Exports[59].Name = "0"
	if impl.ModuleOk(full) {
		t.Error("the last of 60 exports has the first one's name")
	}
}

// Each Export names what is there: one of the functions, the memory as number 0, one of the globals.
func TestModuleOkOfExports(t *testing.T) {
	for _, pages := range []int{-1, 0, 1, 2} {
		for globals := range 4 {
			for _, index := range indexes() {
				for _, kind := range []int{0, 2, 3} {
					m := rightModule(t)
					m.Pages, m.Data = pages, nil
					m.Globals = times(impl.Global{}, globals)
					m.Exports = []impl.Export{{Name: "a"}, {Name: "b", Kind: kind, Index: index}}
					want := kind == 0 && index < 5 || kind == 2 && index == 0 && pages != -1 || kind == 3 && index < globals
					if ok := impl.ModuleOk(m); ok != want {
						t.Errorf("with Pages %d, %d globals, an export of Kind %d and Index %d ModuleOk is %v", pages, globals, kind, index, ok)
					}
				}
			}
		}
	}
	wantModules(t, []moduleCase{
		{"the first import", func(m *impl.Module) { m.Exports[0].Index = 0 }, true},
		{"the last function", func(m *impl.Module) { m.Exports[0].Index = 4 }, true},
		{"one behind it", func(m *impl.Module) { m.Exports[0].Index = 5 }, false},
		{"the memory as number 1", func(m *impl.Module) { m.Exports[1].Index = 1 }, false},
		{"the last global", func(m *impl.Module) { m.Exports[2].Index = 1 }, true},
		{"one behind it", func(m *impl.Module) { m.Exports[2].Index = 2 }, false},
		{"a last export that isn't there", func(m *impl.Module) { m.Exports[3].Index = 9 }, false},
	})
}

func TestModuleOkOfData(t *testing.T) {
	wantModules(t, []moduleCase{
		{"no memory", func(m *impl.Module) { m.Pages, m.Exports = -1, nil }, false},
		{"no memory and no Data", func(m *impl.Module) { m.Pages, m.Exports, m.Data = -1, nil, nil }, true},
		{"no memory and Data without bytes", func(m *impl.Module) { m.Pages, m.Exports, m.Data = -1, nil, []impl.Data{{}} }, false},
		{"no memory and an empty list", func(m *impl.Module) { m.Pages, m.Exports, m.Data = -1, nil, []impl.Data{} }, true},
		{"a memory of no pages", func(m *impl.Module) { m.Pages, m.Most = 0, 0 }, true},
		{"Data beyond the memory", func(m *impl.Module) { m.Data[0].At = impl.MaxI }, true},
		{"20 Data", func(m *impl.Module) { m.Data = times(impl.Data{At: 5, Bytes: []byte{1}}, 20) }, true},
	})
}

// Each of these alone makes a module wrong, and each two of them together do.
func TestModuleOkOfSeveralFaults(t *testing.T) {
	faults := []func(m *impl.Module){
		func(m *impl.Module) { m.Funcs[0].Body = spelt("b") },
		func(m *impl.Module) { m.Funcs[1].Body = nil },
		func(m *impl.Module) { m.Exports[3].Name = "f" },
		func(m *impl.Module) { m.Exports[0].Index = 77 },
		func(m *impl.Module) { m.Pages, m.Most = -1, -1 },
	}
	for a := range faults {
		for b := range faults {
			m := rightModule(t)
			faults[a](&m)
			faults[b](&m)
			if impl.ModuleOk(m) {
				t.Errorf("with the faults %d and %d ModuleOk is true", a, b)
			}
		}
	}
}

// A right module is right when it is read again.
func TestModuleOkOfBytes(t *testing.T) {
	for _, wrong := range []bool{false, true} {
		m := rightModule(t)
		if wrong {
			m.Funcs[2].Body = bodyOf(t, "drop")
		}
		b, _ := impl.ModuleBytes(m)
		back, code := impl.ReadModule(b)
		if code != 0 || impl.ModuleOk(back) == wrong {
			t.Errorf("read again: code %d, ModuleOk is %v", code, impl.ModuleOk(back))
		}
	}
}

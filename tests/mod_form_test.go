package tests

import (
	"math"
	"slices"
	"strings"
	"testing"

	"loop.example/g00472/impl"
)

// wholeModule: a module that has something of everything, and is right.
func wholeModule() impl.Module {
	return impl.Module{
		Sigs:    []impl.Sig{{Params: 0, Results: 0}, {Params: 2, Results: 1}, {Params: 60, Results: 1}},
		Imports: []impl.Import{{Mod: "env", Name: "tell", Sig: 1}, {Mod: "", Name: "ö€😀", Sig: 2}},
		Funcs:   []impl.Func{{Sig: 0, Locals: 0, Body: spelt("bnisee")}, {Sig: 1, Locals: 3, Body: nil}},
		Pages:   1,
		Most:    2,
		Globals: []impl.Global{{Mut: true, Init: -5}, {Init: 7}},
		Exports: []impl.Export{{Name: "f", Kind: 0, Index: 2}, {Name: "m", Kind: 2}, {Name: "g", Kind: 3, Index: 1}},
		Data:    []impl.Data{{At: 12, Bytes: []byte{1, 2, 255}}, {At: -1}},
	}
}

// formCase: a change of the module above, and whether it is right then.
type formCase struct {
	what   string
	change func(m *impl.Module)
	want   bool
}

func wantForm(t *testing.T, cases []formCase) {
	t.Helper()
	for _, c := range cases {
		m := wholeModule()
		c.change(&m)
		if ok := impl.FormOk(m); ok != c.want {
			t.Errorf("%s: FormOk is %v", c.what, ok)
		}
	}
}

func times[T any](v T, count int) []T { return slices.Repeat([]T{v}, count) }

func TestFormOfWholeModules(t *testing.T) {
	wantForm(t, []formCase{
		{"as it stands", func(m *impl.Module) {}, true},
		{"nothing in it", func(m *impl.Module) { *m = impl.Module{} }, true},
		{"nothing in it, no memory", func(m *impl.Module) { *m = impl.Module{Pages: -1, Most: -1} }, true},
		{"empty lists", func(m *impl.Module) {
			*m = impl.Module{Sigs: []impl.Sig{}, Imports: []impl.Import{}, Funcs: []impl.Func{}, Globals: []impl.Global{}, Exports: []impl.Export{}, Data: []impl.Data{}}
		}, true},
	})
}

func TestFormOfCounts(t *testing.T) {
	sig, imp, fun := impl.Sig{Params: 1}, impl.Import{Mod: "a", Name: "b"}, impl.Func{}
	wantForm(t, []formCase{
		{"30 Sigs", func(m *impl.Module) { m.Sigs = times(sig, 30) }, true},
		{"31 Sigs", func(m *impl.Module) { m.Sigs = times(sig, 31) }, false},
		{"60 Imports", func(m *impl.Module) { m.Imports, m.Funcs = times(imp, 60), nil }, true},
		{"61 Imports", func(m *impl.Module) { m.Imports, m.Funcs = times(imp, 61), nil }, false},
		{"60 Funcs", func(m *impl.Module) { m.Imports, m.Funcs = nil, times(fun, 60) }, true},
		{"61 Funcs", func(m *impl.Module) { m.Imports, m.Funcs = nil, times(fun, 61) }, false},
		{"30 Imports and 30 Funcs", func(m *impl.Module) { m.Imports, m.Funcs = times(imp, 30), times(fun, 30) }, true},
		{"31 Imports and 30 Funcs", func(m *impl.Module) { m.Imports, m.Funcs = times(imp, 31), times(fun, 30) }, false},
		{"30 Imports and 31 Funcs", func(m *impl.Module) { m.Imports, m.Funcs = times(imp, 30), times(fun, 31) }, false},
		{"30 Globals", func(m *impl.Module) { m.Globals = times(impl.Global{}, 30) }, true},
		{"31 Globals", func(m *impl.Module) { m.Globals = times(impl.Global{}, 31) }, false},
		{"60 Exports", func(m *impl.Module) { m.Exports = times(impl.Export{}, 60) }, true},
		{"61 Exports", func(m *impl.Module) { m.Exports = times(impl.Export{}, 61) }, false},
		{"20 Data", func(m *impl.Module) { m.Data = times(impl.Data{}, 20) }, true},
		{"21 Data", func(m *impl.Module) { m.Data = times(impl.Data{}, 21) }, false},
		{"1500 instructions", func(m *impl.Module) { m.Funcs[1].Body = times(impl.Ins{Op: impl.OpNop}, 1500) }, true},
		{"1501 instructions", func(m *impl.Module) { m.Funcs[1].Body = times(impl.Ins{Op: impl.OpNop}, 1501) }, false},
		{"2000 bytes", func(m *impl.Module) { m.Data[1].Bytes = make([]byte, 2000) }, true},
		{"2001 bytes", func(m *impl.Module) { m.Data[1].Bytes = make([]byte, 2001) }, false},
	})
}

// fieldCase: a field, and from which number to which it is right.
type fieldCase struct {
	what        string
	set         func(m *impl.Module, n int)
	least, most int
}

func fieldCases() []fieldCase {
	return []fieldCase{
		{"Params of the first", func(m *impl.Module, n int) { m.Sigs[0].Params = n }, 0, 60},
		{"Params of the last", func(m *impl.Module, n int) { m.Sigs[2].Params = n }, 0, 60},
		{"Results of the first", func(m *impl.Module, n int) { m.Sigs[0].Results = n }, 0, 1},
		{"Results of the last", func(m *impl.Module, n int) { m.Sigs[2].Results = n }, 0, 1},
		{"Sig of an import", func(m *impl.Module, n int) { m.Imports[1].Sig = n }, 0, 2},
		{"Sig of a function", func(m *impl.Module, n int) { m.Funcs[1].Sig = n }, 0, 2},
		{"Locals of the first", func(m *impl.Module, n int) { m.Funcs[0].Locals = n }, 0, 60},
		{"Locals of the last", func(m *impl.Module, n int) { m.Funcs[1].Locals = n }, 0, 60},
		{"Pages without an end", func(m *impl.Module, n int) { m.Pages, m.Most = n, -1 }, -1, 2},
		{"Pages up to the most", func(m *impl.Module, n int) { m.Pages, m.Most = n, 65536 }, 0, 2},
		{"Pages up to 1", func(m *impl.Module, n int) { m.Pages, m.Most = n, 1 }, 0, 1},
		{"Pages up to 0", func(m *impl.Module, n int) { m.Pages, m.Most = n, 0 }, 0, 0},
		{"Most from 0 pages", func(m *impl.Module, n int) { m.Pages, m.Most = 0, n }, -1, 65536},
		{"Most from 1 page, and an end", func(m *impl.Module, n int) { m.Pages, m.Most = 1, max(n, 0) }, 1, 65536},
		{"Most from 2 pages, and an end", func(m *impl.Module, n int) { m.Pages, m.Most = 2, max(n, 0) }, 2, 65536},
		{"Most without memory", func(m *impl.Module, n int) { m.Pages, m.Most = -1, n }, -1, -1},
		{"Init of the first", func(m *impl.Module, n int) { m.Globals[0].Init = n }, -1 << 31, 1<<31 - 1},
		{"Init of the last", func(m *impl.Module, n int) { m.Globals[1].Init = n }, -1 << 31, 1<<31 - 1},
		{"Index of a function", func(m *impl.Module, n int) { m.Exports[0].Index = n }, 0, 1000},
		{"Index of the memory", func(m *impl.Module, n int) { m.Exports[1].Index = n }, 0, 1000},
		{"Index of a global", func(m *impl.Module, n int) { m.Exports[2].Index = n }, 0, 1000},
		{"At of the first", func(m *impl.Module, n int) { m.Data[0].At = n }, -1 << 31, 1<<31 - 1},
		{"At of the last", func(m *impl.Module, n int) { m.Data[1].At = n }, -1 << 31, 1<<31 - 1},
		{"A of a branch", func(m *impl.Module, n int) { m.Funcs[0].Body[1] = impl.Ins{Op: impl.OpBr, A: n} }, 0, 1000},
	}
}

func TestFormOfFields(t *testing.T) {
	var cases []formCase
	for _, f := range fieldCases() {
		l := append(ends(), f.least-1, f.least, f.least+1, f.most-1, f.most, f.most+1)
		for _, n := range l {
			cases = append(cases, formCase{f.what + " " + impl.NumText(n), func(m *impl.Module) { f.set(m, n) }, f.least <= n && n <= f.most})
		}
	}
	wantForm(t, cases)
}

// Most is -1 or from Pages on; the cases above take it as -1 nowhere but there.
func TestFormOfMost(t *testing.T) {
	for _, pages := range []int{math.MinInt, -2, -1, 0, 1, 2, 3, math.MaxInt} {
		for _, most := range []int{math.MinInt, -3, -2, -1, 0, 1, 2, 3, 65535, 65536, 65537, math.MaxInt} {
			want := pages == -1 && most == -1 || 0 <= pages && pages <= 2 && (most == -1 || pages <= most && most <= 65536)
			if ok := impl.FormOk(impl.Module{Pages: pages, Most: most}); ok != want {
				t.Errorf("of Pages %d, Most %d FormOk is %v", pages, most, ok)
			}
		}
	}
}

func TestFormOfKinds(t *testing.T) {
	for kind := -2; kind <= 6; kind++ {
		m := wholeModule()
		m.Funcs = nil
		m.Exports[2].Kind = kind
		if want := kind == 0 || kind == 2 || kind == 3; impl.FormOk(m) != want {
			t.Errorf("with Kind %d FormOk isn't %v", kind, want)
		}
	}
	for _, kind := range []int{math.MinInt, math.MaxInt, 1 << 32, 1<<32 + 2} {
		if impl.FormOk(impl.Module{Exports: []impl.Export{{Kind: kind}}}) {
			t.Errorf("with Kind %d FormOk is true", kind)
		}
	}
}

func TestFormOfNames(t *testing.T) {
	names := map[string]bool{
		"": true, "a": true, strings.Repeat("a", 40): true, strings.Repeat("a", 41): false, strings.Repeat("a", 1<<20): false,
		strings.Repeat("é", 20): true, strings.Repeat("é", 20) + "a": false, strings.Repeat("😀", 10): true, strings.Repeat("😀", 11): false,
		"\x00": true, "a\x00b": true, "\ufffd": true, "\U0010ffff": true, "\xff": false, "a\x80": false, "\xc0\x80": false, "\xed\xa0\x80": false, "\xf4\x90\x80\x80": false,
		strings.Repeat("a", 39) + "\xc3": false, "é"[:1]: false,
	}
	for name, want := range names {
		wantForm(t, []formCase{
			{"Mod of the first", func(m *impl.Module) { m.Imports[0].Mod = name }, want},
			{"Mod of the last", func(m *impl.Module) { m.Imports[1].Mod = name }, want},
			{"Name of the first", func(m *impl.Module) { m.Imports[0].Name = name }, want},
			{"Name of the last", func(m *impl.Module) { m.Imports[1].Name = name }, want},
			{"name of the first export", func(m *impl.Module) { m.Exports[0].Name = name }, want},
			{"name of the last export", func(m *impl.Module) { m.Exports[2].Name = name }, want},
		})
	}
}

// Names may be alike, and what an Index or a call names needn't be there: that is a later chapter's.
func TestFormAsksNoMore(t *testing.T) {
	wantForm(t, []formCase{
		{"two exports of one name", func(m *impl.Module) { m.Exports[1].Name = m.Exports[0].Name }, true},
		{"an export of what isn't there", func(m *impl.Module) { m.Exports[0].Index = 900 }, true},
		{"an export of no memory", func(m *impl.Module) { m.Pages, m.Most = -1, -1 }, true},
		{"a call of what isn't there", func(m *impl.Module) { m.Funcs[1].Body = []impl.Ins{{Op: impl.OpCall, A: 900}} }, true},
		{"a body that leaves too much", func(m *impl.Module) { m.Funcs[1].Body = times(impl.Ins{Op: impl.OpConst, A: 1}, 9) }, true},
		{"two alike Sigs", func(m *impl.Module) { m.Sigs[1] = m.Sigs[0] }, true},
		{"data beyond the memory", func(m *impl.Module) { m.Data[0].At = 1 << 30 }, true},
	})
}

func TestFormOfBodiesAndSigs(t *testing.T) {
	wantForm(t, []formCase{
		{"no end", func(m *impl.Module) { m.Funcs[1].Body = spelt("b") }, false},
		{"no begin", func(m *impl.Module) { m.Funcs[1].Body = spelt("e") }, false},
		{"two elses", func(m *impl.Module) { m.Funcs[1].Body = spelt("isse") }, false},
		{"an else in a block", func(m *impl.Module) { m.Funcs[0].Body = spelt("ibsee") }, false},
		{"no operation", func(m *impl.Module) { m.Funcs[1].Body = spelt("n?n") }, false},
		{"a nop with A", func(m *impl.Module) { m.Funcs[0].Body[1].A = 1 }, false},
		{"an end with B", func(m *impl.Module) { m.Funcs[0].Body[5].B = 1 }, false},
		{"an alignment of 8", func(m *impl.Module) { m.Funcs[1].Body = []impl.Ins{{Op: impl.OpLoad, B: 3}} }, false},
		{"no Sigs for imports", func(m *impl.Module) { m.Sigs, m.Funcs = nil, nil }, false},
		{"no Sigs for functions", func(m *impl.Module) { m.Sigs, m.Imports = nil, nil }, false},
		{"no Sigs and none asked", func(m *impl.Module) { m.Sigs, m.Imports, m.Funcs = nil, nil, nil }, true},
		{"one Sig too few", func(m *impl.Module) { m.Sigs = m.Sigs[:2] }, false},
	})
}

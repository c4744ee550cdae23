package tests

import (
	"slices"
	"strings"
	"testing"

	"loop.example/g00472/impl"
)

// joined: the parts that aren't empty, with ';' between.
func joined(parts ...string) string {
	return strings.Join(slices.DeleteFunc(slices.Clone(parts), func(s string) bool { return s == "" }), ";")
}

// many: the text count times, with ';' between.
func many(text string, count int) string { return strings.Join(times(text, count), ";") }

func values(count int) string { return many("i32.const 7", count) }

func drops(count int) string { return many("drop", count) }

// places: how many instructions text has.
func places(text string) int {
	if text == "" {
		return 0
	}
	return strings.Count(text, ";") + 1
}

func bodyOf(t *testing.T, text string) []impl.Ins {
	t.Helper()
	l, ok := impl.TextBody(text)
	if !ok {
		t.Fatalf("%q is no body", text)
	}
	return l
}

// around: a module with the body in its first function, number 2, which has
// two Params, three Locals and as many results as told. There are the imports
// 0 (none to one) and 1 (one to none), the functions 3 (two to one) and 4 (three
// to none), a global with Mut and one without, and a memory.
func around(t *testing.T, results int, text string) impl.Module {
	t.Helper()
	return impl.Module{
		Sigs:    []impl.Sig{{Params: 2, Results: results}, {Results: 1}, {Params: 1}, {Params: 2, Results: 1}, {Params: 3}},
		Imports: []impl.Import{{Mod: "io", Name: "get", Sig: 1}, {Mod: "io", Name: "put", Sig: 2}},
		Funcs: []impl.Func{
			{Sig: 0, Locals: 3, Body: bodyOf(t, text)},
			{Sig: 3, Body: bodyOf(t, "local.get 1")},
			{Sig: 4},
		},
		Pages:   1,
		Most:    -1,
		Globals: []impl.Global{{Mut: true, Init: 5}, {Init: -5}},
		Exports: []impl.Export{{Name: "main", Index: 2}},
	}
}

// wantTold: what the three functions on bodies tell of a function, and whether they fit together.
func wantTold(t *testing.T, m impl.Module, i int, fault int, heights []int) {
	t.Helper()
	text := ""
	if i >= 0 && i < len(m.Funcs) {
		text = impl.BodyText(m.Funcs[i].Body)
	}
	if got := impl.FaultAt(m, i); got != fault {
		t.Errorf("FaultAt is %d, not %d, of %q", got, fault, text)
	}
	l, ok := impl.StackAt(m, i)
	if ok != (fault == -1) || !slices.Equal(l, heights) {
		t.Errorf("StackAt is %v, %v, not %v, of %q", l, ok, heights, text)
	}
	most := -1
	if fault == -1 {
		most = slices.Max(append([]int{0}, heights...))
	}
	if got := impl.MaxStack(m, i); got != most {
		t.Errorf("MaxStack is %d, not %d, of %q", got, most, text)
	}
}

// wantFault: FaultAt of the body in a function with as many results as told;
// the tests' own walk has to say the same.
func wantFault(t *testing.T, results int, text string, want int) {
	t.Helper()
	m := around(t, results, text)
	if got := wantAsWalked(t, m, 0); got != want {
		t.Errorf("the tests' walk says %d, not %d, of %q", got, want, text)
	}
	if impl.ModuleOk(m) != (want == -1) {
		t.Errorf("ModuleOk isn't %v of %q", want == -1, text)
	}
}

func wantRight(t *testing.T, results int, text string) {
	t.Helper()
	wantFault(t, results, text, -1)
}

// room: a place within a body: what stands ahead of it and behind it.
type room struct{ ahead, behind string }

// rooms: just within the function, a block, a loop, an if without else, the
// first part of an if with else, an else; and of these some within others.
func rooms() []room {
	l := []room{
		{"", ""},
		{"block 0", "end"},
		{"loop 0", "end"},
		{"i32.const 1;if 0", "end"},
		{"i32.const 1;if 0", "else;end"},
		{"i32.const 1;if 0;else", "end"},
	}
	return append(l,
		room{"block 0;loop 0", "end;end"},
		room{"loop 0;i32.const 1;if 0;nop;else", "end;nop;end"},
		room{"i32.const 1;if 0;unreachable;else;block 0", "end;end"},
	)
}

// deaths: what nothing behind can be reached of, in a function without results.
func deaths() []string { return []string{"unreachable", "br 0", "return", "i32.const 9;return"} }

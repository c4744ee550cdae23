package tests

import (
	"fmt"
	"math"
	"slices"
	"testing"

	"loop.example/g00472/impl"
)

// wantExecuted: what Execute must tell, by the tests' own reader and machine.
func wantExecuted(b []byte, in []int, fuel int) impl.Result {
	m, code := wantModule(b)
	main := slices.IndexFunc(m.Exports, func(e impl.Export) bool { return e.Name == "main" && e.Kind == 0 })
	if code != 0 || main < 0 {
		return bad
	}
	return wantMeaning(wantPlayed(m, m.Exports[main].Index, nil, in, fuel))
}

func wantAsExecuted(t *testing.T, what string, b []byte, in []int, fuel int) impl.Result {
	t.Helper()
	want := wantExecuted(b, in, fuel)
	if got := impl.Execute(b, in, fuel); !whole(got, want) {
		t.Errorf("Execute with %v and fuel %d is %+v, not %+v, of %.600s", in, fuel, got, want, what)
	}
	return want
}

// bytesOf: what Compile tells of a text that has no fault.
func bytesOf(t *testing.T, s string) []byte {
	t.Helper()
	b, code, at := impl.Compile(s)
	if code != 0 {
		t.Fatalf("Compile has code %d and place %d, of %.300s", code, at, s)
	}
	return b
}

// wantExecute: what Execute tells of the compiled text with as much fuel as it
// needs; without that it begins as many instructions as there is fuel.
func wantExecute(t *testing.T, s string, in []int, want impl.Result) {
	t.Helper()
	b := bytesOf(t, s)
	for _, fuel := range []int{want.Steps, want.Steps + 1, 20000, 1 << 40} {
		if got := impl.Execute(b, in, fuel); !whole(got, want) {
			t.Errorf("Execute with %v and fuel %d is %+v, not %+v, of %s", in, fuel, got, want, s)
		}
		wantAsExecuted(t, s, b, in, fuel)
	}
	for _, fuel := range []int{math.MinInt, -1, 0, 1, want.Steps / 2, want.Steps - 1} {
		got := wantAsExecuted(t, s, b, in, fuel)
		if fuel < want.Steps && (got.End != impl.EndFuel || got.Steps != max(0, fuel) || !impl.Prefix(got, want)) {
			t.Errorf("Execute with %v and fuel %d, where %d would be enough, is %+v, of %s", in, fuel, want.Steps, got, s)
		}
	}
}

// What compiled texts do, with the instructions that are begun.
func TestExecuteByHand(t *testing.T) {
	for _, c := range []struct {
		s    string
		in   []int
		want impl.Result
	}{
		{"func main() { }", nil, done(0, 1)},
		{"func main() { return 7; }", nil, done(7, 2)},
		{"int g; func main() { g = 7; }", nil, leaving(done(0, 3), 7)},
		{"int g; int h; func main() { h = 7; return h - 9; }", nil, leaving(done(-2, 6), 0, 7)},
		{"func main() { put(300); put(get()); put(get()); }", []int{1<<32 + 65}, saying(done(0, 13), 44, 65, 255)},
		{"func main() { return get(); }", []int{1<<33 - 5, 8}, done(-5, 2)},
		{"func main() { return get(); }", nil, done(-1, 2)},
		{"func f(x) { return x * 2; } func main() { return f(21); }", nil, done(42, 7)},
		{"int a[2]; func main() { a[1] = 5; return a[1]; }", nil, done(5, 20)},
		{"int a[2]; int g; func main() { g = 3; a[2] = 5; g = 4; }", nil, leaving(trapped(whyBound, 10), 3)},
		{"int a[2]; func main() { put(1); return a[-1]; }", nil, saying(trapped(whyBound, 14), 1)},
		{"int g; func main() { g = 3; return g / 0; }", nil, leaving(trapped(impl.WhyZero, 5), 3)},
		{"func main() { return 1 % get(); }", []int{0}, trapped(impl.WhyZero, 3)},
		{"func main() { return get() / get(); }", []int{1 << 31, -1}, trapped(impl.WhyOver, 3)},
		{"func main() { return get() % get(); }", []int{1 << 31, -1}, done(0, 4)},
		{"func main() { main(); }", nil, ended(impl.EndDeep, 100)},
		{"func main() { put(1); main(); }", nil, saying(ended(impl.EndDeep, 500), times(1, 100)...)},
		{"func main() { while (get()) { } }", []int{1, 1, 0}, done(0, 14)},
	} {
		wantExecute(t, c.s, c.in, c.want)
	}
	forever := bytesOf(t, "int g; func main() { put(2); while (1) { } }")
	for _, fuel := range []int{6, 7, 19999, 20000, 20001, math.MaxInt} {
		want := saying(leaving(ended(impl.EndFuel, min(fuel, 20000)), 0), 2)
		if got := impl.Execute(forever, nil, fuel); !whole(got, want) {
			t.Errorf("with fuel %d Execute is %+v, not %+v", fuel, got, want)
		}
	}
}

// Bytes that are no module's are run badly: a fault of each kind that ReadModule has, and of each pair.
func TestExecuteOfNoModules(t *testing.T) {
	right := bytesOf(t, "func main() { put(1); return 2; }")
	if got := impl.Execute(right, nil, 99); !whole(got, saying(done(2, 6), 1)) {
		t.Errorf("Execute is %+v", got)
	}
	l := someBytes()
	for at := range right {
		l = append(l, right[:at])
	}
	for _, code := range []int{3, 4, 5} {
		for _, sections := range wrongs(code) {
			l = append(l, ofChunks(sections...))
		}
	}
	told := map[int]int{}
	for _, b := range l {
		_, code := wantModule(b)
		told[code]++
		for _, fuel := range []int{math.MinInt, 0, 1, 99, math.MaxInt} {
			got := wantAsExecuted(t, fmt.Sprintf("% x", b), b, []int{1, 2}, fuel)
			if code != 0 && !whole(got, bad) {
				t.Errorf("Execute is %+v, though ReadModule has code %d, of % x", got, code, b)
			}
		}
	}
	for code := 1; code <= 5; code++ {
		if told[code] == 0 {
			t.Errorf("no bytes have code %d", code)
		}
	}
	// Each byte of a right module changed: what is run then is as the tests' own machine does it.
	for at := range right {
		for _, v := range []byte{0, 1, 2, 11, 65, 127, 128, 255, right[at] + 1} {
			b := slices.Clone(right)
			b[at] = v
			wantAsExecuted(t, fmt.Sprintf("% x", b), b, []int{4}, 99)
		}
	}
}

// Modules that no text has: such as aren't right, such as have no main, or one that can't be run so, and others.
func TestExecuteOfOtherModules(t *testing.T) {
	for what, m := range wrongModules(t) {
		b := shortest().module(m)
		got := wantAsExecuted(t, what, b, nil, 99)
		// Bytes tell each number as one of 32 bits.
		if what != "a global's Init is no number" && !whole(got, bad) {
			t.Errorf("Execute is %+v, though %s", got, what)
		}
	}
	for what, c := range map[string]struct {
		change func(m *impl.Module)
		want   impl.Result
	}{
		"as it is":                {func(m *impl.Module) {}, leaving(done(0, 1), -5)},
		"no main":                 {func(m *impl.Module) { m.Exports = nil }, bad},
		"another name":            {func(m *impl.Module) { m.Exports[0].Name = "Main" }, bad},
		"main is a global":        {func(m *impl.Module) { m.Exports[0].Kind, m.Exports[0].Index = 3, 0 }, bad},
		"main is the memory":      {func(m *impl.Module) { m.Exports[0].Kind, m.Exports[0].Index = 2, 0 }, bad},
		"main takes two params":   {func(m *impl.Module) { m.Exports[0].Index = 4 }, bad},
		"main takes a param":      {func(m *impl.Module) { m.Sigs[0].Params = 1 }, bad},
		"main is put":             {func(m *impl.Module) { m.Exports[0].Index = 1 }, bad},
		"main is get":             {func(m *impl.Module) { m.Exports[0].Index = 0 }, leaving(done(7, 0), -5)},
		"main is none that is":    {func(m *impl.Module) { m.Exports[0].Index = 2 }, leaving(trapped(impl.WhyLink, 0), -5)},
		"main is another one":     {func(m *impl.Module) { m.Exports[0].Index = 5 }, leaving(done(0, 4), -5)},
		"it traps, and tells why": {func(m *impl.Module) { m.Funcs[0].Body = bodyOf(t, "unreachable") }, leaving(trapped(5, 1), -5)},
		"and tells nothing": {func(m *impl.Module) {
			m.Globals[0].Init, m.Funcs[0].Body = 0, bodyOf(t, "unreachable")
		}, leaving(trapped(impl.WhyTrap, 1), -5)},
		"and tells one below 0": {func(m *impl.Module) {
			m.Globals[0].Init, m.Funcs[0].Body = -3, bodyOf(t, "unreachable")
		}, leaving(trapped(-3, 1), -5)},
		"another Why is that one": {func(m *impl.Module) {
			m.Funcs[0].Body = bodyOf(t, "i32.const 1;i32.const 0;i32.div_u;drop")
		}, leaving(trapped(impl.WhyZero, 3), -5)},
		"out of memory": {func(m *impl.Module) { m.Funcs[0].Body = bodyOf(t, "i32.const -1;i32.load 0 0;drop") }, leaving(trapped(impl.WhyMemory, 2), -5)},
		"Data that don't fit": {func(m *impl.Module) {
			m.Data = []impl.Data{{At: 65536, Bytes: []byte{1}}}
		}, leaving(trapped(impl.WhyMemory, 0), -5)},
		"no globals": {func(m *impl.Module) {
			m.Globals, m.Funcs = nil, m.Funcs[:2]
			m.Funcs[0].Body = bodyOf(t, "unreachable")
		}, trapped(impl.WhyTrap, 1)},
	} {
		m := machine(t, 0, "nop")
		c.change(&m)
		if got := wantAsExecuted(t, what, shortest().module(m), []int{7}, 99); !whole(got, c.want) {
			t.Errorf("Execute is %+v, not %+v, where %s", got, c.want, what)
		}
	}
}

// Bytes of modules made by a fixed rule, which no text has, as the tests' own machine runs them.
func TestExecuteOfManyModules(t *testing.T) {
	next := spread()
	h := howEnded{}
	for range 400 {
		m := makeModule(next)
		b := shortest().module(m)
		for _, fuel := range []int{next(20), 400} {
			h.add(wantAsExecuted(t, fmt.Sprint(textsOf(m)), b, []int{3, 0, 1 << 31, -7}, fuel))
		}
	}
	if h[[2]int{impl.EndDone, 0}] < 20 {
		t.Errorf("these modules tell too little: %v", h)
	}
}

package tests

import (
	"slices"
	"strconv"
	"strings"
	"testing"

	"loop.example/g00472/impl"
)

// wantLocals: the locals of each function of the text, with blanks between.
func wantLocals(t *testing.T, s string, want ...string) {
	t.Helper()
	p := sourceOf(t, s)
	wantCheckAt(t, s, p, 0, 0)
	for fn, names := range want {
		if got := impl.LocalsOf(p, fn); !slices.Equal(got, strings.Fields(names)) {
			t.Errorf("LocalsOf(%q, %d) is %q, not %q", s, fn, got, names)
		}
	}
}

func TestLocalsOf(t *testing.T) {
	wantLocals(t, "func main() { }", "")
	wantLocals(t, "func main() { main(); } func f(x) { } func g(x, y) { } func h(z, y, x) { return z; }", "", "x", "x y", "z y x")
	wantLocals(t, "func main() { var b = 1; var a = b; var c = a; }", "b a c")
	wantLocals(t, "func f(z, y) { var x = z; var a = y; } func main() { var z = f(1, 2); }", "z y x a", "z")
	wantLocals(t, "func main() { if (1) { var d = 1; while (2) { var c = 2; } var b = 3; } else { var a = 4; } var e = 5; }", "d c b a e")
	wantLocals(t, "func main() { while (1) { if (2) { } else { if (3) { var x = 1; } } } var w = 1; } func f(p) { if (p) { var q = 1; } }", "x w", "p q")
	wantLocals(t, "int g; int a[2]; func main() { g = 1; a[0] = g; return a[size(a)]; } func f(g, a, f) { var main = g; var get = a; var size = f; }", "", "g a f main get size")
	wantLocals(t, "func f("+strings.Join(counted("p", 40), ", ")+") { } func main() { "+varsText(40)+"}", strings.Join(counted("p", 40), " "), strings.Join(counted("v", 40), " "))
	p := sourceOf(t, "func f(x) { } func main() { var y = 1; }")
	for _, fn := range noFns(p) {
		if got := impl.LocalsOf(p, fn); len(got) != 0 {
			t.Errorf("LocalsOf %d, which is no function, is %q", fn, got)
		}
	}
	for _, s := range []string{"func main(x) { }", "func main() { var x = 1; var x = 2; }", "func f(x) { } func main() { return y; }", "int a[0]; func f(x) { } func main() { }", ""} {
		wantTellsNothing(t, s, sourceOf(t, s))
	}
}

func TestPlace(t *testing.T) {
	s := "func main() { } int b[3]; int g; int a[1]; int c[100]; int d[7]; func f(x) { var y = 1; }"
	p := sourceOf(t, s)
	wantCheckAt(t, s, p, 0, 0)
	for name, want := range map[string]int{"b": 0, "a": 12, "c": 16, "d": 416, "g": -1, "main": -1, "f": -1, "x": -1, "y": -1, "e": -1, "": -1, "get": -1, "put": -1, "size": -1, "B": -1, "b ": -1, "bb": -1, "\x00": -1, "abcdefghijklm": -1, strings.Repeat("b", 5000): -1} {
		if got := impl.Place(p, name); got != want {
			t.Errorf("Place of %.50q is %d, not %d", name, got, want)
		}
	}
	for count := 1; count <= 8000; count *= 20 {
		p = sizesOf(times(8000/count, count)...)
		for k := range p.Arrays {
			if k%100 == 0 || k == count-1 {
				if got := impl.Place(p, "a"+strconv.Itoa(k)); got != 4*(8000/count)*k {
					t.Errorf("Place of number %d of arrays with %d cells is %d", k, 8000/count, got)
				}
			}
		}
	}
	// A local that hides an array changes nothing of its place.
	p = sourceOf(t, "int z[5]; int a[1]; func main() { var a = 1; var z = a; }")
	if impl.Place(p, "z") != 0 || impl.Place(p, "a") != 20 {
		t.Errorf("Place is %d and %d", impl.Place(p, "z"), impl.Place(p, "a"))
	}
	for _, s := range []string{"int a[1]; func main(x) { }", "int a[1]; int b[0]; func main() { }", "int a[1]; int a[1]; func main() { }", "int a[1]; func main() { a = 1; }", "int a[1];"} {
		wantTellsNothing(t, s, sourceOf(t, s))
	}
}

// wantCalled: the numbers of the functions that each one of the text calls.
func wantCalled(t *testing.T, s string, want ...[]int) {
	t.Helper()
	p := sourceOf(t, s)
	wantCheckAt(t, s, p, 0, 0)
	for fn, numbers := range want {
		if got := impl.Calls(p, fn); !slices.Equal(got, numbers) {
			t.Errorf("Calls(%q, %d) is %v, not %v", s, fn, got, numbers)
		}
	}
}

func TestCalls(t *testing.T) {
	const fns = "int g; int a[1]; func f(x) { } func h() { } func k(x, y) { } "
	wantCalled(t, "func main() { }", nil)
	wantCalled(t, "func main() { main(); main(); }", []int{0})
	wantCalled(t, "func f() { f(); } func main() { }", []int{0}, nil)
	for s, want := range map[string][]int{
		"put(get() + size(a));":                nil,
		"f(1);":                                {0},
		"h(); h(); h();":                       {1},
		"k(1, 2); h(); f(1);":                  {0, 1, 2},
		"k(f(1), h());":                        {0, 1, 2},
		"f(f(f(1)));":                          {0},
		"f(k(h(), main()));":                   {0, 1, 2, 3},
		"a[f(1)];":                             {0},
		"a[f(1)] = h();":                       {0, 1},
		"a[0] = h();":                          {1},
		"g = k(1, 2);":                         {2},
		"var v = h();":                         {1},
		"var h = h(); h = h + h();":            {1},
		"return -h();":                         {1},
		"return 1 + (2 * f(3) || h());":        {0, 1},
		"if (h()) { }":                         {1},
		"if (0) { h(); } else { f(1); }":       {0, 1},
		"if (0) { } else { f(1); }":            {0},
		"while (h()) { k(1, 2); }":             {1, 2},
		"return 1; h();":                       {1},
		"put(h());":                            {1},
		"a[size(a) - f(g)] = a[k(1, a[h()])];": {0, 1, 2},
		"while (1) { while (2) { if (3) { h(); } } }":   {1},
		"var f = 1; var k = f; g = f + k;":              nil,
		"if (1) { main(); } if (2) { k(2, main()); }":   {2, 3},
		"var main = 1; var get = get(); return main();": {3},
	} {
		wantCalled(t, fns+"func main() { "+s+" }", nil, nil, nil, want)
		var up []int
		for _, fn := range want {
			up = append(up, (fn+1)%4)
		}
		slices.Sort(up)
		wantCalled(t, "func main() { "+s+" } "+fns, up)
	}
	p := sourceOf(t, fns+"func main() { f(1); }")
	for _, fn := range noFns(p) {
		if got := impl.Calls(p, fn); len(got) != 0 {
			t.Errorf("Calls of %d, which is no function, is %v", fn, got)
		}
	}
	for _, s := range []string{"func main(x) { main(1); }", "func f() { main(); } func main() { f(); return x; }", "func f() { f(); }"} {
		wantTellsNothing(t, s, sourceOf(t, s))
	}
}

func TestReached(t *testing.T) {
	for s, want := range map[string][]int{
		"func main() { }":                                                                              {0},
		"func main() { main(); }":                                                                      {0},
		"func f() { } func main() { }":                                                                 {1},
		"func main() { } func f() { }":                                                                 {0},
		"func f() { main(); } func main() { }":                                                         {1},
		"func f() { } func main() { f(); }":                                                            {0, 1},
		"func f() { } func h() { } func main() { f(); }":                                               {0, 2},
		"func f() { } func main() { h(); } func h() { }":                                               {1, 2},
		"func main() { f(); } func f() { h(); } func h() { k(); } func k() { }":                        {0, 1, 2, 3},
		"func k() { } func h() { k(); } func f() { h(); } func main() { f(); }":                        {0, 1, 2, 3},
		"func main() { f(); } func f() { h(); } func h() { f(); main(); }":                             {0, 1, 2},
		"func f() { h(); } func h() { f(); } func main() { }":                                          {2},
		"func f() { h(); } func h() { f(); } func k() { main(); f(); } func main() { h(); }":           {0, 1, 3},
		"func a() { b(); } func b() { c(); } func c() { a(); } func main() { b(); } func d() { c(); }": {0, 1, 2, 3},
		"func a() { e(); } func b() { } func main() { a(); c(); } func c() { e(); } func d() { b(); } func e() { f(); } func f() { }": {0, 2, 3, 5, 6},
		"int a[1]; func f(x) { a[h()] = 1; } func main() { return a[f(2)]; } func h() { } func k() { }":                               {0, 1, 2},
		"func f() { } func main() { var f = 1; return f; }":                                                                           {1},
		"func f() { } func main() { return 1; f(); }":                                                                                 {0, 1},
		"func f() { } func main() { if (0) { f(); } }":                                                                                {0, 1},
	} {
		p := sourceOf(t, s)
		wantCheckAt(t, s, p, 0, 0)
		if got := impl.Reached(p); !slices.Equal(got, want) {
			t.Errorf("Reached(%q) is %v, not %v", s, got, want)
		}
	}
	// A row of as many functions as go, each of which calls the next one, or the one ahead.
	for at := range 40 {
		var ahead, behind strings.Builder
		var want []int
		for fn := range 40 {
			name := func(k int) string {
				if k == at {
					return "main"
				}
				return "f" + strconv.Itoa(k)
			}
			ahead.WriteString("func " + name(fn) + "() { " + name(max(0, fn-1)) + "(); } ")
			behind.WriteString("func " + name(fn) + "() { " + name(min(39, fn+1)) + "(); } ")
			want = append(want, fn)
		}
		if got := impl.Reached(sourceOf(t, ahead.String())); !slices.Equal(got, want[:at+1]) {
			t.Errorf("from %d down Reached is %v", at, got)
		}
		if got := impl.Reached(sourceOf(t, behind.String())); !slices.Equal(got, want[at:]) {
			t.Errorf("from %d up Reached is %v", at, got)
		}
	}
	for _, s := range []string{"", "func f() { }", "func main(x) { }", "func main() { } func f() { return x; }", "int main; func main() { }"} {
		wantTellsNothing(t, s, sourceOf(t, s))
	}
}

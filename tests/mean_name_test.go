package tests

import (
	"testing"

	"loop.example/g00472/impl"
)

// programCase: a whole program, and what is told of it.
type programCase struct {
	s    string
	in   []int
	want impl.Result
}

func wantMeans(t *testing.T, cases []programCase) {
	t.Helper()
	for _, c := range cases {
		wantMean(t, c.s, c.in, c.want)
	}
}

// A number that is told, and the Globals, whatever the steps.
func telling(n int, globals ...int) impl.Result { return leaving(done(n, anySteps), globals...) }

// A name that is both: a local behind the NVar, wherever that lies, and a global ahead of it and in it.
func TestMeanOfLocalsWithNamesOfGlobals(t *testing.T) {
	wantMeans(t, []programCase{
		{"int x; func main() { x = 1; var x = 5; x = x + 1; return x; }", nil, leaving(done(6, 11), 1)},
		{"int x; func main() { x = 3; var x = x + 1; return x * 10; }", nil, telling(40, 3)},
		{"int x; func main() { x = 3; x = x + 1; return x; }", nil, telling(4, 4)},
		{"int x; func main() { if (0) { x = 8; var x = 7; x = 6; } return x; }", nil, telling(0, 0)},
		{"int x; func main() { x = 2; if (1) { x = 8; var x = 7; x = 6; } return x; }", nil, telling(6, 8)},
		{"int x; func main() { x = 2; if (x) { put(x); } else { var x = 1; } put(x); x = 9; }", nil, saying(telling(0, 2), 2, 0)},
		{"int x; func main() { x = 2; while (x) { put(x); x = x - 1; var x = 7; put(x); } put(x); }", nil, saying(telling(0, 0), 2, 7, 1, 7, 7)},
		{"int y; func main() { var i = 0; while (i < 2) { put(y); y = y + 5; var y = 7; y = y + 1; i = i + 1; } return y; }", nil, saying(telling(8, 10), 0, 5)},
		{"int x; func main() { x = set(4); var x = set(5); return x; } func set(n) { x = n + 10; return n; }", nil, telling(5, 15)},
		{"int x; func f(x) { x = x + 1; return x; } func main() { x = 5; return f(x) * 10 + x; }", nil, telling(65, 5)},
		{"int x; func f() { x = x + 1; return x; } func main() { var x = 5; return f() * 10 + x; }", nil, telling(15, 1)},
		{"int x; int y; func f(y) { x = y; y = 3; return y; } func main() { y = 2; return f(y + 5) + y * 10; }", nil, telling(23, 7, 2)},
	})
}

// A local whose NVar wasn't done is 0; one that is done again is put again.
func TestMeanOfNVar(t *testing.T) {
	wantMeans(t, []programCase{
		{"func main() { if (0) { var y = 5; } return y; }", nil, done(0, 5)},
		{"int y; func main() { y = 3; if (0) { var y = 5; } return y; }", nil, telling(0, 3)},
		{"func main() { while (0) { var y = 5; } y = y - 1; return y; }", nil, done(-1, 9)},
		{"func main() { if (1) { } else { var y = 5; } put(y); y = 4; return y; }", nil, saying(telling(4), 0)},
		{"func main() { 0 && f(0); return 1 || 2; } func f(x) { var y = x; return y; }", nil, telling(1)},
		{"func main() { if (1) { return y(); } var z = 5; return z; } func y() { return 2; }", nil, telling(2)},
		{"func main() { var i = 0; while (i < 3) { var y = i * 2; put(y); y = 9; i = i + 1; } return y; }", nil, saying(telling(9), 0, 2, 4)},
		{"func main() { var i = 0; while (i < 4) { if (i == 1) { var y = 7; } i = i + 1; if (i == 3) { put(y); } } return y; }", nil, saying(telling(7), 7)},
		{"func main() { while (get() > 0) { var y = get(); } return y; }", []int{1, 10, 1, 20, 1, 30, 0, 40}, telling(30)},
		{"func main() { while (get() > 0) { var y = get(); var z = z0(y); } return y * 100 + z; } func z0(n) { return n + 1; }", []int{1, 10, 1, 20, -5}, telling(2021)},
	})
}

// Each call has locals of its own, which begin as 0; params begin as the arguments.
func TestMeanOfLocalsOfCalls(t *testing.T) {
	wantMeans(t, []programCase{
		{"func f(n) { if (n) { var y = 5; } return y; } func main() { f(1); return f(0); }", nil, telling(0)},
		{"func f(n) { var k = n; if (n) { f(n - 1); } return k; } func main() { return f(3); }", nil, telling(3)},
		{"func f(n) { if (n) { var k = n; f(n - 1); } put(k); return k; } func main() { return f(3); }", nil, saying(telling(3), 0, 1, 2, 3)},
		{"func f(n) { n = n + 1; return n; } func main() { var n = 1; f(n); f(n); return n; }", nil, telling(1)},
		{"func f(x, y, z) { return x * 100 + y * 10 + z; } func main() { return f(1, 2, 3); }", nil, telling(123)},
		{"func f(x, y, z) { var w = x; x = y; y = z; z = w; return x * 100 + y * 10 + z; } func main() { var x = 7; return f(1, 2, 3) + x * 1000; }", nil, telling(7231)},
		{"func f(x, y) { if (x) { return f(x - 1, y + x); } return y; } func main() { return f(10, 0); }", nil, telling(55)},
		{"func fib(n) { if (n < 2) { return n; } return fib(n - 1) + fib(n - 2); } func main() { return fib(12); }", nil, telling(144)},
		{"func f(a0, a1, a2, a3, a4, a5, a6, a7, a8, a9) { return a9 - a0; } func main() { return f(10, 1, 2, 3, 4, 5, 6, 7, 8, 90); }", nil, telling(80)},
	})
}

// What stands for something else: locals with names of arrays and of functions, those that stand ready among them.
func TestMeanOfLocalsWithOtherNames(t *testing.T) {
	for _, c := range []struct {
		programCase
		cells []int
	}{
		{programCase{"int a[2]; func main() { a[1] = 4; var r = a[1]; var a = 7; return r * 10 + a; }", nil, telling(47)}, []int{0, 4}},
		{programCase{"int a[2]; func main() { while (get()) { a[0] = a[0] + 1; } var a = a[0] * 10; a = a + 1; return a; }", []int{1, 1, 1, 0}, telling(31)}, []int{3, 0}},
		{programCase{"int a[2]; func main() { a[size(a) - 1] = 5; var a = a[1] + size(a); return a; }", nil, telling(7)}, []int{0, 5}},
		{programCase{"int a[2]; func f(a) { a = a + 1; return a; } func main() { a[0] = f(3); return a[0]; }", nil, telling(4)}, []int{4, 0}},
		{programCase{"int a[2]; func a1() { var a = 9; } func main() { a1(); a[1] = a1(); a[0] = 1; return size(a); }", nil, telling(2)}, []int{1, 0}},
		{programCase{"int a[1]; func f() { return 3; } func main() { var f = 4; return f() * 10 + f; }", nil, telling(34)}, []int{0}},
		{programCase{"int a[1]; func f(f) { if (f) { return f(f - 1) + f; } return 0; } func main() { return f(4); }", nil, telling(10)}, []int{0}},
		{programCase{"int a[1]; func main() { var main = 2; return main; }", nil, telling(2)}, []int{0}},
		{programCase{"int a[4]; func main() { var get = 5; var put = 6; var size = 7; put(get()); return get * 1000 + put * 100 + size * 10 + size(a); }", []int{9}, saying(telling(5674), 9)}, []int{0, 0, 0, 0}},
	} {
		wantMean(t, c.s, c.in, c.want)
		wantCells(t, c.s, c.in, "a", c.cells...)
	}
}

// Globals and cells begin as 0, are those of all functions, and are told in the order of the program.
func TestMeanOfGlobals(t *testing.T) {
	wantMeans(t, []programCase{
		{"func main() { }", nil, done(0, 1)},
		{"int g; func main() { return g; }", nil, leaving(done(0, 3), 0)},
		{"int c; int b; int a; func main() { a = 1; b = 2; c = 3; }", nil, telling(0, 3, 2, 1)},
		{"func main() { a = 1; f(); c = a; } int a; func f() { b = a + 1; a = 5; } int b; int c;", nil, telling(0, 5, 2, 5)},
		{"int g; func main() { g = -1; g = g * g - 2147483647; g = g - 10; }", nil, telling(0, impl.MaxI-7)},
		{"int g; func main() { while (g < 10) { g = g + 3; } return g; }", nil, telling(12, 12)},
		{"int g; func f() { g = g + 1; return g; } func main() { return f() * 100 + f() * 10 + f(); }", nil, telling(123, 3)},
		{"int g; func f() { g = 7; return 1; } func main() { g = f(); return g; }", nil, telling(1, 1)},
		{"int g; func f() { g = 7; return 1; } func main() { return g + f() * 10 + g; }", nil, telling(17, 7)},
	})
}

package tests

import (
	"strings"
	"testing"

	"loop.example/g00472/impl"
)

// downTo: what is told where the number from in is as great as it may be for
// calls to go, and one more, which ends with EndDeep.
func downTo(t *testing.T, s string, most int, n func(in int) int) {
	t.Helper()
	for _, in := range []int{0, 1, most - 1, most} {
		wantMean(t, s, []int{in}, telling(n(in)))
	}
	for _, in := range []int{most + 1, most + 2, 5000} {
		wantMean(t, s, []int{in}, leaving(ended(impl.EndDeep, anySteps)))
	}
}

func same(n int) int { return n }

// MaxDeep calls open, `main` one of them, and one more.
func TestMeanOfDeepCalls(t *testing.T) {
	downTo(t, "func f(n) { if (n == 0) { return 0; } return f(n - 1) + 1; } func main() { return f(get()); }", 98, same)
	downTo(t, "func main() { return f(get()); } func f(n) { if (n == 0) { return 0; } return 1 + f(n - 1); }", 98, same)
	downTo(t, "func f(n) { if (n == 0) { return 0; } return g(n - 1) + 1; } func g(n) { if (n == 0) { return 0; } return f(n - 1) + 1; } func main() { return f(get()); }", 98, same)
	downTo(t, "func f(n) { if (n > 0) { f(n - 1); } } func main() { f(get()); }", 98, func(int) int { return 0 })
	downTo(t, "func f(n) { while (n > 0) { return f(n - 1); } return 3; } func main() { return f(get()); }", 98, func(int) int { return 3 })
	// Where a call's argument has another call, that one isn't open any more when the outer one begins.
	downTo(t, "func id(x) { return x; } func f(n) { if (n == 0) { return 0; } return id(f(n - 1)) + 1; } func main() { return f(get()); }", 98, same)
	downTo(t, "func id(x) { return x; } func f(n) { if (n == 0) { return id(0); } return f(n - 1) + 1; } func main() { return f(get()); }", 97, same)
	downTo(t, "func f(n) { if (n == 0) { return 0; } return id(id(id(f(n - 1)))) + 1; } func id(x) { return x; } func main() { return id(f(id(get()))); }", 98, same)
	// `main` itself again.
	wantMean(t, "int n; func main() { n = n + 1; if (n < 100) { return main() + 1; } return 0; }", nil, telling(99, 100))
	wantMean(t, "int n; func main() { n = n + 1; if (n < 101) { return main() + 1; } return 0; }", nil, leaving(ended(impl.EndDeep, anySteps), 100))
}

// What ends is closed again: how many calls there were one behind the other isn't asked.
func TestMeanOfCallsOneBehindTheOther(t *testing.T) {
	const f = "func f(n) { if (n == 0) { return 0; } return f(n - 1) + 1; } "
	wantMean(t, f+"func main() { return f(98) + f(98) * 1000; }", nil, telling(98098))
	wantMean(t, f+"func main() { var i = 0; var s = 0; while (i < 5) { s = s + f(98); i = i + 1; } return s; }", nil, telling(490))
	wantMean(t, f+"func main() { put(f(98)); put(f(98)); f(99); put(1); }", nil, saying(leaving(ended(impl.EndDeep, anySteps)), 98, 98))
	wantMean(t, "func f() { return 1; } func main() { var i = 0; while (i < 1000) { i = i + f(); } return i; }", nil, telling(1000))
	wantMean(t, "func f() { while (1) { return 1; } } func main() { var i = 0; while (i < 500) { i = i + f(); } return i; }", nil, telling(500))
}

// With MaxDeep calls open `get`, `put` and `size` go, and no other call, whose arguments are done first.
func TestMeanOfCallsAtTheBottom(t *testing.T) {
	at := func(bottom string) string {
		return "int g; int a[3]; func id(x) { return x; } func none() { } func f(n) { if (n == 0) { " + bottom + " } return f(n - 1); } func main() { return f(98); }"
	}
	wantMean(t, at("put(size(a)); return get();"), []int{7}, saying(telling(7, 0), 3))
	wantMean(t, at("put(put(get())); return 4;"), nil, saying(telling(4, 0), 255, 0))
	wantMean(t, at("a[size(a) - 1] = get(); return a[2];"), []int{5}, telling(5, 0))
	wantMean(t, at("return none();"), nil, leaving(ended(impl.EndDeep, anySteps), 0))
	wantMean(t, at("return id(1);"), nil, leaving(ended(impl.EndDeep, anySteps), 0))
	wantMean(t, at("g = 5; return id(put(8));"), nil, saying(leaving(ended(impl.EndDeep, anySteps), 5), 8))
	wantMean(t, at("return id(1 / 0);"), nil, leaving(trapped(impl.WhyZero, anySteps), 0))
	wantMean(t, at("return id(a[3]);"), nil, leaving(trapped(whyBound, anySteps), 0))
	wantMean(t, at("return id(id(put(1)));"), nil, saying(leaving(ended(impl.EndDeep, anySteps), 0), 1))
	wantMean(t, at("put(id(put(1)));"), nil, saying(leaving(ended(impl.EndDeep, anySteps), 0), 1))
	wantMean(t, at("0 && none(); return 1 || none();"), nil, telling(1, 0))
}

// The steps of a run that gets too deep: the call and its arguments were begun, what it calls was not.
func TestMeanStepsOfDeepCalls(t *testing.T) {
	// Two steps for each function's NBlock and NDo, and one for the NCall.
	wantMean(t, "func main() { main(); }", nil, ended(impl.EndDeep, 300))
	wantMean(t, "func f() { f(); } func main() { f(); }", nil, ended(impl.EndDeep, 300))
	wantMean(t, "func f() { g(); } func g() { f(); } func main() { g(); }", nil, ended(impl.EndDeep, 300))
	wantMean(t, "func f(x) { f(x); } func main() { f(1); }", nil, ended(impl.EndDeep, 400))
	wantMean(t, "func f() { return f(); } func main() { return f(); }", nil, ended(impl.EndDeep, 300))
	wantMean(t, "int a[1]; func f(x, y) { f(put(x), a[0]); } func main() { f(0, 0); }", nil, saying(ended(impl.EndDeep, 5+99*7), times(0, 99)...))
	wantMean(t, "int n; func main() { n = n + 1; put(n); main(); }", nil, saying(leaving(ended(impl.EndDeep, 1000), 100), upFrom0(101)[1:]...))
}

// As many nodes within one another as go, and as many open calls with these.
func TestMeanOfGreatPrograms(t *testing.T) {
	for _, count := range []int{1, 100, 390} {
		wantMean(t, "func main() { return 1"+strings.Repeat(" + 1", count)+"; }", nil, done(1+count, 3+2*count))
	}
	sum := strings.Repeat(" + 1", 380)
	wantMean(t, "int g; func f(n) { g = g + 1; if (n == 0) { return 0; } return f(n - 1)"+sum+"; } func main() { return f(12); }", nil, telling(12*380, 13))
	p := sourceOf(t, "int g; func f() { g = g + 1; return f()"+sum+"; } func main() { return f(); }")
	if r := impl.Mean(p, nil, 20000); r.End != impl.EndFuel || r.Steps != 20000 {
		t.Errorf("Mean is %+v", r)
	}
	wantMean(t, "func main() { return "+strings.Repeat("-", 55)+"get(); }", []int{5}, done(-5, 58))
	wantMean(t, "func main() { "+strings.Repeat("if (1) { ", 27)+"return 7; "+strings.Repeat("} ", 27)+"}", nil, done(7, 1+27*3+2))
}

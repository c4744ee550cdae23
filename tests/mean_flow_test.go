package tests

import (
	"testing"

	"loop.example/g00472/impl"
)

// NReturn leaves the function from within whatever it lies in, and that alone.
func TestMeanOfReturns(t *testing.T) {
	for _, c := range []meanCase{
		{"if (1) { return 4; } return 5;", nil, done(4, 6)},
		{"if (0) { return 4; } return 5;", nil, done(5, 5)},
		{"if (0) { return 4; } else { return 6; } return 5;", nil, done(6, 6)},
		{"if (1) { return 4; } else { return 6; } return 5;", nil, done(4, 6)},
		{"if (1) { if (1) { return 4; } g = 2; } g = 3; return 5;", nil, done(4, 9)},
		{"while (1) { return 4; g = 2; } g = 3; return 5;", nil, done(4, 6)},
		{"while (1) { while (1) { if (1) { return 4; } g = 2; } g = 3; } return 5;", nil, done(4, 12)},
		{"while (1) { if (g == 3) { return g * 10; } g = g + 1; }", nil, leaving(done(30, anySteps), 3, 0)},
		{"while (1) { if (get() < 0) { return 7; } else { g = g + 1; } }", []int{1, 1}, leaving(done(7, anySteps), 2, 0)},
		{"if (1) { return say(4) + 1; } return 5;", nil, saying(done(5, anySteps), 4)},
		{"return id(id(3));", nil, done(3, 11)},
		{"g = id(3); return g + 1;", nil, leaving(done(4, anySteps), 3, 0)},
		{"id(3); g = 5;", nil, leaving(done(0, anySteps), 5, 0)},
		{"return 1 + id(2) * 3;", nil, done(7, anySteps)},
		{"a[id(1)] = id(2); return a[id(1)];", nil, done(2, anySteps)},
		{"if (id(1)) { return id(8); }", nil, done(8, anySteps)},
		{"return 0;", nil, done(0, 3)},
		{"return -1;", nil, done(-1, 4)},
		{"return get();", []int{impl.MinI}, done(impl.MinI, 3)},
		{"return put(9);", nil, saying(done(0, 4), 9)},
	} {
		wantMainMean(t, c.s, c.in, c.want)
	}
	wantMeans(t, []programCase{
		{"func f() { while (1) { while (1) { return 4; } } } func main() { put(f()); return 5; }", nil, saying(telling(5), 4)},
		{"func f(n) { while (1) { if (n == 0) { return 4; } n = n - 1; } } func main() { return f(2) + f(3); }", nil, telling(8)},
		{"func f(n) { if (n) { return f(n - 1); } else { return 9; } put(1); } func main() { put(f(3)); put(2); return 3; }", nil, saying(telling(3), 9, 2)},
		{"func f() { return g() + 1; put(7); } func g() { return 2; put(8); } func main() { return f() + 1; put(9); }", nil, telling(4)},
	})
}

// A function that isn't left by a return tells 0, whatever was done in it last.
func TestMeanWithoutReturn(t *testing.T) {
	wantMeans(t, []programCase{
		{"func f() { } func main() { return f() + 5; }", nil, telling(5)},
		{"func f() { 7; } func main() { return f() + 5; }", nil, telling(5)},
		{"func f(x) { x = 7; var y = 8; } func main() { return f(6) + 5; }", nil, telling(5)},
		{"func f(x) { if (x) { return 7; } } func main() { return f(0) * 10 + f(1); }", nil, telling(7)},
		{"func f(x) { if (x) { return 7; } } func main() { return f(1) * 10 + f(0); }", nil, telling(70)},
		{"func f(x) { while (x) { return 7; } } func main() { return f(0); }", nil, telling(0)},
		{"func f() { g(); } func g() { return 7; } func main() { return f(); }", nil, telling(0)},
		{"func f() { return 7; } func main() { f(); }", nil, telling(0)},
		{"func f() { return 7; } func main() { var x = f(); x; }", nil, telling(0)},
		{"func main() { if (0) { return 7; } }", nil, done(0, 3)},
	})
}

func TestMeanOfLoops(t *testing.T) {
	for _, c := range []meanCase{
		{"while (g < 3) { g = g + 1; } return g;", nil, leaving(done(3, 31), 3, 0)},
		{"while (g < 3) { while (h < 2) { h = h + 1; put(h); } h = 0; g = g + 1; }", nil, saying(leaving(done(0, anySteps), 3, 0), 1, 2, 1, 2, 1, 2)},
		{"while (say(get())) { }", []int{3, -1, 0, 7}, saying(done(0, anySteps), 3, 255, 0)},
		{"while (get() - 5) { g = g + 1; } return get();", []int{1, 2, 5, 8}, leaving(done(8, anySteps), 2, 0)},
		{"while (get() + 1) { g = g + 1; }", []int{1, 2, 3}, leaving(done(0, anySteps), 3, 0)},
		{"var n = get(); var f = 1; while (n) { f = f * n; n = n - 1; } return f;", []int{10}, done(3628800, anySteps)},
		{"var i = 0; while (i < size(a)) { a[i] = i * i; i = i + 1; } return a[0] + a[1] * 10 + a[2] * 100;", nil, done(410, anySteps)},
		{"while (1) { a[g] = 1; g = g + 1; }", nil, leaving(trapped(whyBound, anySteps), 3, 0)},
		{"while (1) { put(6 / (2 - g)); g = g + 1; }", nil, saying(leaving(trapped(impl.WhyZero, anySteps), 2, 0), 3, 6)},
	} {
		wantMainMean(t, c.s, c.in, c.want)
	}
}

// An if does one of its blocks, and without an else none where its first is 0.
func TestMeanOfIfs(t *testing.T) {
	for _, n := range []int{0, 1, -1, 2, 256, impl.MinI, impl.MaxI, 1 << 32, 1<<32 + 1, -1 << 40} {
		holds := one(wantWrap(n) != 0)
		wantMainMean(t, "if (get()) { return 1; } else { return 2; }", []int{n}, done(2-holds, 6))
		wantMainMean(t, "if (get()) { put(1); } else { put(2); } put(3);", []int{n}, saying(done(0, 10), 2-holds, 3))
		wantMainMean(t, "if (get()) { return 1; } return 2;", []int{n}, done(2-holds, 5+holds))
		wantMainMean(t, "while (get()) { return 1; } return 2;", []int{n}, done(2-holds, 5+holds))
		wantMainMean(t, "return !get();", []int{n}, done(1-holds, 4))
		wantMainMean(t, "return get() && 1;", []int{n}, done(holds, 4+holds))
		wantMainMean(t, "return get() || 0;", []int{n}, done(holds, 5-holds))
		wantMainMean(t, "return 1 && get();", []int{n}, done(holds, 5))
		wantMainMean(t, "return 0 || get();", []int{n}, done(holds, 5))
	}
}

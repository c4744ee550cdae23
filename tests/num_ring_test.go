package tests

import (
	"math"
	"math/big"
	"testing"

	"loop.example/g00472/impl"
)

func TestMaxAndMin(t *testing.T) {
	if impl.MaxI != 2147483647 || impl.MinI != -2147483648 {
		t.Errorf("MaxI %d, MinI %d", impl.MaxI, impl.MinI)
	}
}

func TestWrapAndPlainAtEdges(t *testing.T) {
	for _, c := range []struct{ n, wrap, plain int }{
		{0, 0, 0},
		{1, 1, 1},
		{-1, -1, 4294967295},
		{impl.MaxI, impl.MaxI, 2147483647},
		{impl.MinI, impl.MinI, 2147483648},
		{impl.MaxI + 1, impl.MinI, 2147483648},
		{impl.MinI - 1, impl.MaxI, 2147483647},
		{4294967295, -1, 4294967295},
		{4294967296, 0, 0},
		{4294967297, 1, 1},
		{-4294967295, 1, 1},
		{-4294967296, 0, 0},
		{-4294967297, -1, 4294967295},
		{math.MaxInt, -1, 4294967295},
		{math.MaxInt - 1, -2, 4294967294},
		{math.MinInt, 0, 0},
		{math.MinInt + 1, 1, 1},
	} {
		if w := impl.Wrap(c.n); w != c.wrap {
			t.Errorf("Wrap(%d) is %d, not %d", c.n, w, c.wrap)
		}
		if p := impl.Plain(c.n); p != c.plain {
			t.Errorf("Plain(%d) is %d, not %d", c.n, p, c.plain)
		}
	}
}

func TestWrapAndPlainOfSamples(t *testing.T) {
	for _, n := range samples() {
		if w := impl.Wrap(n); w != wantWrap(n) {
			t.Errorf("Wrap(%d) is %d, not %d", n, w, wantWrap(n))
		}
		if p := impl.Plain(n); p != wantPlain(n) {
			t.Errorf("Plain(%d) is %d, not %d", n, p, wantPlain(n))
		}
	}
}

func TestRingGoesRoundAtMaxAndMin(t *testing.T) {
	for _, c := range []struct {
		what      string
		got, want int
	}{
		{"MaxI + 1", impl.Add(impl.MaxI, 1), impl.MinI},
		{"MaxI + MaxI", impl.Add(impl.MaxI, impl.MaxI), -2},
		{"MinI + MinI", impl.Add(impl.MinI, impl.MinI), 0},
		{"MinI + -1", impl.Add(impl.MinI, -1), impl.MaxI},
		{"MinI + MaxI", impl.Add(impl.MinI, impl.MaxI), -1},
		{"MinI - 1", impl.Sub(impl.MinI, 1), impl.MaxI},
		{"MaxI - -1", impl.Sub(impl.MaxI, -1), impl.MinI},
		{"0 - MinI", impl.Sub(0, impl.MinI), impl.MinI},
		{"MaxI - MinI", impl.Sub(impl.MaxI, impl.MinI), -1},
		{"MinI - MaxI", impl.Sub(impl.MinI, impl.MaxI), 1},
		{"MaxI * MaxI", impl.Mul(impl.MaxI, impl.MaxI), 1},
		{"MinI * MinI", impl.Mul(impl.MinI, impl.MinI), 0},
		{"MinI * -1", impl.Mul(impl.MinI, -1), impl.MinI},
		{"MinI * MaxI", impl.Mul(impl.MinI, impl.MaxI), impl.MinI},
		{"MaxI * 2", impl.Mul(impl.MaxI, 2), -2},
		{"65536 * 65536", impl.Mul(65536, 65536), 0},
		{"greatest int + greatest int", impl.Add(math.MaxInt, math.MaxInt), -2},
		{"least int - 1", impl.Sub(math.MinInt, 1), -1},
		{"greatest int * least int", impl.Mul(math.MaxInt, math.MinInt+1), -1},
	} {
		if c.got != c.want {
			t.Errorf("%s is %d, not %d", c.what, c.got, c.want)
		}
	}
}

func TestRingOfSamples(t *testing.T) {
	for _, a := range samples() {
		for _, b := range samples() {
			x, y := big.NewInt(int64(a)), big.NewInt(int64(b))
			if s, want := impl.Add(a, b), wrapBig(new(big.Int).Add(x, y)); s != want {
				t.Fatalf("Add(%d, %d) is %d, not %d", a, b, s, want)
			}
			if d, want := impl.Sub(a, b), wrapBig(new(big.Int).Sub(x, y)); d != want {
				t.Fatalf("Sub(%d, %d) is %d, not %d", a, b, d, want)
			}
			if p, want := impl.Mul(a, b), wrapBig(new(big.Int).Mul(x, y)); p != want {
				t.Fatalf("Mul(%d, %d) is %d, not %d", a, b, p, want)
			}
		}
	}
}

func TestRingLaws(t *testing.T) {
	for _, a := range edges() {
		if impl.Add(a, 0) != impl.Wrap(a) || impl.Mul(a, 1) != impl.Wrap(a) || impl.Sub(a, a) != 0 {
			t.Fatalf("0 and 1 at %d", a)
		}
		for _, b := range edges() {
			if impl.Add(a, b) != impl.Add(b, a) || impl.Mul(a, b) != impl.Mul(b, a) || impl.Add(impl.Sub(a, b), b) != impl.Wrap(a) {
				t.Fatalf("two numbers: %d, %d", a, b)
			}
			for _, c := range edges() {
				if impl.Add(impl.Add(a, b), c) != impl.Add(a, impl.Add(b, c)) ||
					impl.Mul(impl.Mul(a, b), c) != impl.Mul(a, impl.Mul(b, c)) ||
					impl.Mul(a, impl.Add(b, c)) != impl.Add(impl.Mul(a, b), impl.Mul(a, c)) {
					t.Fatalf("three numbers: %d, %d, %d", a, b, c)
				}
			}
		}
	}
}

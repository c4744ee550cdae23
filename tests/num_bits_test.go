package tests

import (
	"math"
	"testing"

	"loop.example/g00472/impl"
)

func TestBitsByHand(t *testing.T) {
	for _, c := range []struct{ op, a, b, want int }{
		{1, 6, 3, 2},
		{1, -1, impl.MinI, impl.MinI},
		{2, 6, 3, 7},
		{2, impl.MinI, impl.MaxI, -1},
		{3, 6, 3, 5},
		{3, 6, -1, -7},
		{3, impl.MinI, impl.MinI, 0},
		{4, 1, 31, impl.MinI},
		{4, -1, 4, -16},
		{4, impl.MinI, 1, 0},
		{5, -8, 1, -4},
		{5, impl.MinI, 31, -1},
		{5, impl.MaxI, 30, 1},
		{6, -8, 1, 2147483644},
		{6, -1, 28, 15},
		{6, impl.MinI, 31, 1},
		{7, impl.MinI, 1, 1},
		{7, 305419896, 8, 878082066},
		{8, 1, 1, impl.MinI},
		{8, 305419896, 8, 2014458966},
		{1, math.MaxInt, math.MaxInt, -1},
		{2, math.MinInt, 4294967301, 5},
		{3, math.MaxInt, math.MinInt, -1},
		{4, 4294967297, math.MaxInt, impl.MinI},
		{6, math.MaxInt, math.MaxInt, 1},
	} {
		if n := impl.Bits(c.op, c.a, c.b); n != c.want {
			t.Errorf("Bits(%d, %d, %d) is %d, not %d", c.op, c.a, c.b, n, c.want)
		}
	}
}

// How far a shift or a turn goes: Plain of the second modulo 32, below 0 too.
func TestShiftsAndTurnsByEdges(t *testing.T) {
	for _, c := range []struct{ by, far int }{
		{0, 0}, {1, 1}, {31, 31}, {32, 0}, {33, 1}, {63, 31}, {64, 0}, {65, 1},
		{-1, 31}, {-31, 1}, {-32, 0}, {-33, 31}, {-64, 0},
		{impl.MaxI, 31}, {impl.MinI, 0}, {4294967296, 0}, {4294967329, 1},
		{math.MaxInt, 31}, {math.MinInt, 0}, {math.MinInt + 33, 1},
	} {
		for _, a := range samples() {
			for op := 4; op <= 8; op++ {
				if n, want := impl.Bits(op, a, c.by), wantBits(op, a, c.far); n != want {
					t.Fatalf("Bits(%d, %d, %d) is %d, not %d", op, a, c.by, n, want)
				}
			}
		}
	}
}

func TestBitsOfSamples(t *testing.T) {
	for _, a := range samples() {
		for _, b := range samples() {
			for op := 1; op <= 8; op++ {
				if n, want := impl.Bits(op, a, b), wantBits(op, a, b); n != want {
					t.Fatalf("Bits(%d, %d, %d) is %d, not %d", op, a, b, n, want)
				}
			}
		}
	}
}

// wantBits finds each bit of the answer by itself.
func wantBits(op, a, b int) int {
	x, y := bitsOf(a), bitsOf(b)
	by := wantPlain(b) % 32
	var out [32]bool
	for i := range out {
		switch op {
		case 1:
			out[i] = x[i] && y[i]
		case 2:
			out[i] = x[i] || y[i]
		case 3:
			out[i] = x[i] != y[i]
		case 4:
			out[i] = i >= by && x[(i-by+32)%32]
		case 5:
			out[i] = x[min(i+by, 31)]
		case 6:
			out[i] = i+by < 32 && x[(i+by)%32]
		case 7:
			out[i] = x[(i-by+32)%32]
		case 8:
			out[i] = x[(i+by)%32]
		}
	}
	return numberOf(out)
}

// noOps are no op of Bits nor of Compare; those beyond 32 bits would be one if they were wrapped.
var noOps = []int{0, -1, -8, 11, 12, 257, impl.MaxI, impl.MinI, 4294967297, 4294967299, -4294967295, math.MaxInt, math.MinInt, math.MinInt + 1}

func TestBitsOfNoOp(t *testing.T) {
	for _, op := range append([]int{9, 10}, noOps...) {
		for _, a := range edges() {
			for _, b := range edges() {
				if n := impl.Bits(op, a, b); n != 0 {
					t.Fatalf("Bits(%d, %d, %d) is %d, not 0", op, a, b, n)
				}
			}
		}
	}
}

func TestCompareByHand(t *testing.T) {
	for _, c := range []struct {
		a, b int
		want string
	}{
		// For the ops 1 to 10 in order, 'y' where it holds.
		{1, 1, "ynnnnnyyyy"},
		{1, 2, "nyyynnyynn"},
		{2, 1, "nynnyynnyy"},
		{-1, 1, "nyynnyynny"},
		{1, -1, "nynyynnyyn"},
		{-2, -1, "nyyynnyynn"},
		{impl.MinI, impl.MaxI, "nyynnyynny"},
		{impl.MaxI, impl.MinI, "nynyynnyyn"},
		{impl.MinI, impl.MinI, "ynnnnnyyyy"},
		{0, impl.MinI, "nynyynnyyn"},
		{4294967295, -1, "ynnnnnyyyy"},
		{4294967296, 0, "ynnnnnyyyy"},
		{2147483648, 1, "nyynnyynny"},
		{math.MaxInt, math.MinInt, "nyynnyynny"},
		{math.MinInt, math.MaxInt, "nynyynnyyn"},
	} {
		for i, y := range c.want {
			if got := impl.Compare(i+1, c.a, c.b); got != (y == 'y') {
				t.Errorf("Compare(%d, %d, %d) is %v", i+1, c.a, c.b, got)
			}
		}
	}
}

func TestCompareOfSamples(t *testing.T) {
	for _, a := range samples() {
		for _, b := range samples() {
			x, y, p, q := wantWrap(a), wantWrap(b), wantPlain(a), wantPlain(b)
			for i, want := range []bool{x == y, x != y, x < y, p < q, x > y, p > q, x <= y, p <= q, x >= y, p >= q} {
				if got := impl.Compare(i+1, a, b); got != want {
					t.Fatalf("Compare(%d, %d, %d) is %v", i+1, a, b, got)
				}
			}
		}
	}
}

func TestCompareOfNoOp(t *testing.T) {
	for _, op := range noOps {
		for _, a := range edges() {
			for _, b := range edges() {
				if impl.Compare(op, a, b) {
					t.Fatalf("Compare(%d, %d, %d) is true", op, a, b)
				}
			}
		}
	}
}

func TestCountsByHand(t *testing.T) {
	for _, c := range []struct{ n, clz, ctz, pop int }{
		{0, 32, 32, 0},
		{1, 31, 0, 1},
		{5, 29, 0, 2},
		{8, 28, 3, 1},
		{-1, 0, 0, 32},
		{-2, 0, 1, 31},
		{impl.MaxI, 1, 0, 31},
		{impl.MinI, 0, 31, 1},
		{65536, 15, 16, 1},
		{4294967296, 32, 32, 0},
		{4294967295, 0, 0, 32},
		{-4294967296, 32, 32, 0},
		{math.MaxInt, 0, 0, 32},
		{math.MinInt, 32, 32, 0},
		{math.MinInt + 8, 28, 3, 1},
	} {
		if a, b, p := impl.Clz(c.n), impl.Ctz(c.n), impl.Pop(c.n); a != c.clz || b != c.ctz || p != c.pop {
			t.Errorf("Clz, Ctz, Pop of %d are %d, %d, %d, not %d, %d, %d", c.n, a, b, p, c.clz, c.ctz, c.pop)
		}
	}
}

func TestCountsOfSamples(t *testing.T) {
	for _, n := range samples() {
		clz, ctz, pop := 32, 32, 0
		for i, one := range bitsOf(n) {
			if one {
				clz, ctz, pop = 31-i, min(ctz, i), pop+1
			}
		}
		if impl.Clz(n) != clz || impl.Ctz(n) != ctz || impl.Pop(n) != pop {
			t.Errorf("Clz, Ctz, Pop of %d are %d, %d, %d, not %d, %d, %d", n, impl.Clz(n), impl.Ctz(n), impl.Pop(n), clz, ctz, pop)
		}
	}
}

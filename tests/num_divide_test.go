package tests

import (
	"math"
	"testing"

	"loop.example/g00472/impl"
)

type divider struct {
	name string
	do   func(a int, b int) (int, int)
}

var divS = divider{"DivS", impl.DivS}
var remS = divider{"RemS", impl.RemS}
var divU = divider{"DivU", impl.DivU}
var remU = divider{"RemU", impl.RemU}

func (d divider) expect(t *testing.T, a, b, want, wantCode int) {
	t.Helper()
	if n, code := d.do(a, b); n != want || code != wantCode {
		t.Errorf("%s(%d, %d) is %d with code %d, not %d with %d", d.name, a, b, n, code, want, wantCode)
	}
}

func TestDivideWithSign(t *testing.T) {
	for _, c := range []struct{ a, b, quotient, rest int }{
		{7, 2, 3, 1},
		{-7, 2, -3, -1},
		{7, -2, -3, 1},
		{-7, -2, 3, -1},
		{0, 5, 0, 0},
		{0, -5, 0, 0},
		{3, 7, 0, 3},
		{-3, 7, 0, -3},
		{impl.MaxI, 1, impl.MaxI, 0},
		{impl.MaxI, -1, -impl.MaxI, 0},
		{impl.MaxI, impl.MinI, 0, impl.MaxI},
		{impl.MinI, 1, impl.MinI, 0},
		{impl.MinI, 2, -1073741824, 0},
		{impl.MinI, impl.MinI, 1, 0},
		{impl.MinI, impl.MaxI, -1, -1},
		{impl.MinI + 1, -1, impl.MaxI, 0},
		{4294967289, 2, -3, -1},
		{7, 4294967294, -3, 1},
		{math.MaxInt, 1, -1, 0},
		{math.MinInt + 9, math.MinInt + 2, 4, 1},
	} {
		divS.expect(t, c.a, c.b, c.quotient, 0)
		remS.expect(t, c.a, c.b, c.rest, 0)
	}
}

func TestDividePlain(t *testing.T) {
	for _, c := range []struct{ a, b, quotient, rest int }{
		{7, 2, 3, 1},
		{-1, 2, impl.MaxI, 1},
		{-1, 10, 429496729, 5},
		{-1, 1, -1, 0},
		{-1, -1, 1, 0},
		{1, -1, 0, 1},
		{-2, -1, 0, -2},
		{impl.MinI, -1, 0, impl.MinI},
		{impl.MinI, 1, impl.MinI, 0},
		{impl.MinI, 2, 1073741824, 0},
		{impl.MinI, impl.MaxI, 1, 1},
		{impl.MaxI, impl.MinI, 0, impl.MaxI},
		{0, -5, 0, 0},
		{4294967295, 4294967298, impl.MaxI, 1},
		{math.MaxInt, math.MinInt + 2, impl.MaxI, 1},
	} {
		divU.expect(t, c.a, c.b, c.quotient, 0)
		remU.expect(t, c.a, c.b, c.rest, 0)
	}
}

func TestDivideByZero(t *testing.T) {
	for _, a := range samples() {
		for _, b := range []int{0, 4294967296, -4294967296, 1 << 40, math.MinInt} {
			for _, d := range []divider{divS, remS, divU, remU} {
				d.expect(t, a, b, 0, 2)
			}
		}
	}
}

func TestDivideOver(t *testing.T) {
	for _, a := range []int{impl.MinI, impl.MaxI + 1, impl.MinI - 4294967296, math.MinInt + 2147483648} {
		for _, b := range []int{-1, 4294967295, -4294967297, math.MaxInt} {
			divS.expect(t, a, b, 0, 3)
			remS.expect(t, a, b, 0, 0)
			divU.expect(t, a, b, 0, 0)
			remU.expect(t, a, b, impl.MinI, 0)
		}
	}
}

// Quotient and rest make the number again, and the rest is what it must be: that fixes both.
func TestDivideMakesTheNumberAgain(t *testing.T) {
	for _, a := range samples() {
		for _, b := range samples() {
			x, y := wantWrap(a), wantWrap(b)
			if y != 0 && !(x == impl.MinI && y == -1) {
				checkParts(t, divS, remS, a, b, x, y)
			}
			if y != 0 {
				checkParts(t, divider{"DivU", plainOf(impl.DivU)}, divider{"RemU", plainOf(impl.RemU)}, a, b, wantPlain(a), wantPlain(b))
			}
		}
	}
}

func checkParts(t *testing.T, div, rem divider, a, b, x, y int) {
	t.Helper()
	q, code := div.do(a, b)
	r, codeToo := rem.do(a, b)
	least, most := 0, max(y, -y)-1
	if x < 0 {
		least, most = -most, 0
	}
	if code != 0 || codeToo != 0 || q*y+r != x || r < least || r > most {
		t.Fatalf("%s and %s of %d, %d are %d, %d with codes %d, %d", div.name, rem.name, a, b, q, r, code, codeToo)
	}
}

// plainOf tells the answer as a plain number, and fails the law where it isn't a number of 32 bits.
func plainOf(do func(a int, b int) (int, int)) func(a int, b int) (int, int) {
	return func(a int, b int) (int, int) {
		n, code := do(a, b)
		if n < impl.MinI || n > impl.MaxI {
			return n, -1
		}
		return wantPlain(n), code
	}
}

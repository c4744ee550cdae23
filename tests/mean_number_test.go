package tests

import (
	"testing"

	"loop.example/g00472/impl"
)

// wantBinary: what a sign between two numbers that `get` tells makes of them, Mean by Mean.
func wantBinary(t *testing.T, p impl.Source, sign string, a, b int, want, why int) {
	t.Helper()
	r := done(want, 5)
	if why != 0 {
		r = trapped(why, 5)
	}
	if got := impl.Mean(p, []int{a, b}, 99); !whole(got, r) {
		t.Errorf("%d %s %d is %+v, not %+v", a, sign, b, got, r)
	}
}

// Each binary sign by hand, at the edges that chapters 2 and 7 name.
func TestMeanOfSignsByHand(t *testing.T) {
	const min, max = impl.MinI, impl.MaxI
	for _, c := range []struct {
		sign            string
		a, b, want, why int
	}{
		{"+", max, 1, min, 0}, {"+", min, -1, max, 0}, {"+", min, min, 0, 0}, {"+", 2, 3, 5, 0}, {"+", -2, 1, -1, 0},
		{"-", min, 1, max, 0}, {"-", max, -1, min, 0}, {"-", 0, min, min, 0}, {"-", 2, 3, -1, 0}, {"-", 3, 2, 1, 0},
		{"*", max, max, 1, 0}, {"*", min, -1, min, 0}, {"*", 65536, 65536, 0, 0}, {"*", 65536, 32768, min, 0}, {"*", -3, 4, -12, 0},
		{"/", 7, 2, 3, 0}, {"/", -7, 2, -3, 0}, {"/", 7, -2, -3, 0}, {"/", -7, -2, 3, 0}, {"/", min, 1, min, 0}, {"/", min, 2, -1073741824, 0}, {"/", max, -1, -max, 0},
		{"/", 1, 0, 0, impl.WhyZero}, {"/", 0, 0, 0, impl.WhyZero}, {"/", min, 0, 0, impl.WhyZero}, {"/", 1, 1 << 32, 0, impl.WhyZero},
		{"/", min, -1, 0, impl.WhyOver}, {"/", 1 << 31, 1<<32 - 1, 0, impl.WhyOver}, {"/", min + 1, -1, max, 0},
		{"%", 7, 2, 1, 0}, {"%", -7, 2, -1, 0}, {"%", 7, -2, 1, 0}, {"%", -7, -2, -1, 0}, {"%", min, -1, 0, 0}, {"%", min, max, -1, 0},
		{"%", 1, 0, 0, impl.WhyZero}, {"%", 0, 0, 0, impl.WhyZero}, {"%", min, 0, 0, impl.WhyZero},
		{"<<", 1, 31, min, 0}, {"<<", 1, 32, 1, 0}, {"<<", 1, 33, 2, 0}, {"<<", 1, -1, min, 0}, {"<<", 3, 31, min, 0}, {"<<", 5, 0, 5, 0}, {"<<", 5, min, 5, 0}, {"<<", -1, 4, -16, 0},
		{">>", min, 31, -1, 0}, {">>", min, 32, min, 0}, {">>", min, -1, -1, 0}, {">>", max, 31, 0, 0}, {">>", max, 30, 1, 0}, {">>", -5, 1, -3, 0}, {">>", 5, 1, 2, 0}, {">>", -1, 33, -1, 0},
		{"&", 12, 10, 8, 0}, {"&", -1, 7, 7, 0}, {"&", min, max, 0, 0}, {"&", min, -1, min, 0},
		{"|", 12, 10, 14, 0}, {"|", min, max, -1, 0}, {"|", 0, 0, 0, 0}, {"|", -8, 3, -5, 0},
		{"^", 12, 10, 6, 0}, {"^", min, max, -1, 0}, {"^", -1, -1, 0, 0}, {"^", -1, 5, -6, 0},
		{"==", 1, 1, 1, 0}, {"==", 1, 2, 0, 0}, {"==", min, max, 0, 0}, {"==", 1, 1<<32 + 1, 1, 0}, {"==", min, 1 << 31, 1, 0},
		{"!=", 1, 1, 0, 0}, {"!=", 1, 2, 1, 0}, {"!=", min, max, 1, 0}, {"!=", -1, 1<<32 - 1, 0, 0},
		{"<", 1, 2, 1, 0}, {"<", 2, 1, 0, 0}, {"<", 1, 1, 0, 0}, {"<", -1, 0, 1, 0}, {"<", min, max, 1, 0}, {"<", max, min, 0, 0}, {"<", 1 << 31, 0, 1, 0},
		{">", 1, 2, 0, 0}, {">", 2, 1, 1, 0}, {">", 1, 1, 0, 0}, {">", -1, 0, 0, 0}, {">", min, max, 0, 0}, {">", max, min, 1, 0}, {">", 1 << 31, 0, 0, 0},
		{"<=", 1, 2, 1, 0}, {"<=", 2, 1, 0, 0}, {"<=", 1, 1, 1, 0}, {"<=", -1, 0, 1, 0}, {"<=", min, max, 1, 0}, {"<=", max, min, 0, 0},
		{">=", 1, 2, 0, 0}, {">=", 2, 1, 1, 0}, {">=", 1, 1, 1, 0}, {">=", -1, 0, 0, 0}, {">=", min, max, 0, 0}, {">=", max, min, 1, 0},
	} {
		wantBinary(t, sourceOf(t, "func main() { return get() "+c.sign+" get(); }"), c.sign, c.a, c.b, c.want, c.why)
	}
}

// Each binary sign at each two of many numbers, those of more than 32 bits among them.
func TestMeanOfSignsAtEdges(t *testing.T) {
	for _, sign := range betweenSigns() {
		p := sourceOf(t, "func main() { return get() "+sign+" get(); }")
		for _, a := range edges() {
			for _, b := range edges() {
				x, y := wantWrap(a), wantWrap(b)
				switch sign {
				case "||":
					if x == 0 {
						wantBinary(t, p, sign, a, b, one(y != 0), 0)
					}
				case "&&":
					if x != 0 {
						wantBinary(t, p, sign, a, b, one(y != 0), 0)
					}
				default:
					n, why := wantBetween(sign, x, y)
					wantBinary(t, p, sign, a, b, n, why)
				}
			}
		}
	}
}

func TestMeanOfUnarySigns(t *testing.T) {
	for _, c := range []struct {
		sign    string
		n, want int
	}{
		{"-", 0, 0}, {"-", 5, -5}, {"-", -5, 5}, {"-", impl.MaxI, -impl.MaxI}, {"-", impl.MinI, impl.MinI}, {"-", 1 << 32, 0},
		{"!", 0, 1}, {"!", 1, 0}, {"!", -1, 0}, {"!", 2, 0}, {"!", impl.MinI, 0}, {"!", 1 << 32, 1}, {"!", 1<<32 + 1, 0},
		{"~", 0, -1}, {"~", -1, 0}, {"~", 5, -6}, {"~", impl.MaxI, impl.MinI}, {"~", impl.MinI, impl.MaxI}, {"~", 1<<32 - 1, 0},
	} {
		wantMean(t, "func main() { return "+c.sign+" get(); }", []int{c.n}, done(c.want, 4))
	}
	for _, n := range samples() {
		x := wantWrap(n)
		for sign, want := range map[string]int{"-": wantWrap(-x), "!": one(x == 0), "~": -1 - x} {
			p := sourceOf(t, "func main() { return "+sign+"get(); }")
			if got := impl.Mean(p, []int{n}, 9); !whole(got, done(want, 4)) {
				t.Errorf("%s%d is %+v, not %d", sign, n, got, want)
			}
		}
	}
}

// Operations at the ends of what numbers can be written.
func TestMeanOfNumbersInTexts(t *testing.T) {
	for _, c := range []meanCase{
		{"2147483647 + 1", nil, done(impl.MinI, 3)},
		{"-2147483647 - 1", nil, done(impl.MinI, 4)},
		{"1 << 31", nil, done(impl.MinI, 3)},
		{"(1 << 31) / -1", nil, trapped(impl.WhyOver, 6)},
		{"(1 << 31) % -1", nil, done(0, 6)},
		{"2147483647 * 2", nil, done(-2, 3)},
		{"5 / 0", nil, trapped(impl.WhyZero, 3)},
		{"5 % 0", nil, trapped(impl.WhyZero, 3)},
		{"0 / 5", nil, done(0, 3)},
		{"-7 / 2", nil, done(-3, 4)},
		{"-7 % 2", nil, done(-1, 4)},
		{"-1 >> 31", nil, done(-1, 4)},
		{"1 << 32", nil, done(1, 3)},
		{"-1 < 0", nil, done(1, 4)},
	} {
		wantValue(t, c.s, c.in, c.want)
	}
}

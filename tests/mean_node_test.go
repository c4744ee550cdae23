package tests

import (
	"testing"

	"loop.example/g00472/impl"
)

// meanCase: statements or an expression, and what is told of them.
type meanCase struct {
	s    string
	in   []int
	want impl.Result
}

// Each kind of statement by itself: what it does, and the nodes that are begun.
func TestMeanOfStatements(t *testing.T) {
	for _, c := range []meanCase{
		{"", nil, done(0, 1)},
		{"5;", nil, done(0, 3)},
		{"return 5;", nil, done(5, 3)},
		{"return 0;", nil, done(0, 3)},
		{"return 5; return 6;", nil, done(5, 3)},
		{"5; 6; return 7; 8;", nil, done(7, 7)},
		{"var x = 7;", nil, done(0, 3)},
		{"var x = 7; return x;", nil, done(7, 5)},
		{"var x = 7; x = 8; return x;", nil, done(8, 7)},
		{"g = 7;", nil, leaving(done(0, 3), 7, 0)},
		{"h = 7; g = h; return g;", nil, leaving(done(7, 7), 7, 7)},
		{"a[1] = 7;", nil, done(0, 4)},
		{"a[1] = 7; return a[1];", nil, done(7, 7)},
		{"a[0] = 5; a[1] = 6; a[2] = 7; return a[0] * 100 + a[1] * 10 + a[2];", nil, done(567, 23)},
		{"if (1) { }", nil, done(0, 4)},
		{"if (0) { }", nil, done(0, 3)},
		{"if (1) { } else { }", nil, done(0, 4)},
		{"if (0) { } else { }", nil, done(0, 4)},
		{"if (1) { g = 1; }", nil, leaving(done(0, 6), 1, 0)},
		{"if (0) { g = 1; }", nil, done(0, 3)},
		{"if (1) { g = 1; } else { h = 2; }", nil, leaving(done(0, 6), 1, 0)},
		{"if (0) { g = 1; } else { h = 2; }", nil, leaving(done(0, 6), 0, 2)},
		{"if (-1) { g = 1; } else { h = 2; }", nil, leaving(done(0, 7), 1, 0)},
		{"if (0) { g = 1; } h = 2;", nil, leaving(done(0, 5), 0, 2)},
		{"while (0) { }", nil, done(0, 3)},
		{"while (0) { g = 1; }", nil, done(0, 3)},
		{"while (0) { g = 1; } h = 2;", nil, leaving(done(0, 5), 0, 2)},
		{"while (get() == 1) { }", []int{1, 1, 1}, done(0, 17)},
		{"var x = 2; while (x) { x = x - 1; }", nil, done(0, 17)},
		{"var x = 2; while (x) { x = x - 1; } return x;", nil, done(0, 19)},
		{"while (1) { return 3; }", nil, done(3, 6)},
		{"while (1) { }", nil, ended(impl.EndFuel, 20000)},
	} {
		wantMainMean(t, c.s, c.in, c.want)
	}
}

// Each kind of expression by itself; the steps are those of the expression.
func TestMeanOfExpressions(t *testing.T) {
	for _, c := range []meanCase{
		{"5", nil, done(5, 1)},
		{"2147483647", nil, done(impl.MaxI, 1)},
		{"g", nil, done(0, 1)},
		{"a[2]", nil, done(0, 2)},
		{"a[1 + 1]", nil, done(0, 4)},
		{"get()", []int{9}, done(9, 1)},
		{"get()", nil, done(-1, 1)},
		{"put(65)", nil, saying(done(0, 2), 65)},
		{"put(65) + put(66)", nil, saying(done(0, 5), 65, 66)},
		{"size(a)", nil, done(3, 1)},
		{"size(b)", nil, done(2, 1)},
		{"none()", nil, done(0, 2)},
		{"id(4)", nil, done(4, 5)},
		{"say(4)", nil, saying(done(4, 8), 4)},
		{"two(1, 2)", nil, done(12, 10)},
		{"two(id(1), none())", nil, done(10, 15)},
		{"bump() * 10 + bump()", nil, leaving(done(12, 19), 2, 0)},
		{"-5", nil, done(-5, 2)},
		{"!5", nil, done(0, 2)},
		{"!0", nil, done(1, 2)},
		{"~5", nil, done(-6, 2)},
		{"- - 5", nil, done(5, 3)},
		{"!!5", nil, done(1, 3)},
		{"~-5", nil, done(4, 3)},
		{"1 + 2", nil, done(3, 3)},
		{"7 - 9", nil, done(-2, 3)},
		{"10 - 3 - 2", nil, done(5, 5)},
		{"10 - (3 - 2)", nil, done(9, 5)},
		{"1 == 1", nil, done(1, 3)},
		{"1 == 2", nil, done(0, 3)},
		{"6 & 3 | 8", nil, done(10, 5)},
	} {
		wantValue(t, c.s, c.in, c.want)
	}
}

// `||` and `&&`: the second is begun only where the first doesn't decide, and what comes is 1 or 0.
func TestMeanOfSignsThatDecide(t *testing.T) {
	for _, c := range []meanCase{
		{"0 && 5", nil, done(0, 2)},
		{"1 && 5", nil, done(1, 3)},
		{"7 && 5", nil, done(1, 3)},
		{"-7 && 5", nil, done(1, 4)},
		{"7 && 0", nil, done(0, 3)},
		{"0 && 0", nil, done(0, 2)},
		{"256 && 65536", nil, done(1, 3)},
		{"0 || 5", nil, done(1, 3)},
		{"1 || 5", nil, done(1, 2)},
		{"7 || 0", nil, done(1, 2)},
		{"-7 || 0", nil, done(1, 3)},
		{"0 || 0", nil, done(0, 3)},
		{"0 || 65536", nil, done(1, 3)},
		{"0 && say(1)", nil, done(0, 2)},
		{"1 || say(1)", nil, done(1, 2)},
		{"say(2) && say(3)", nil, saying(done(1, 17), 2, 3)},
		{"say(0) || say(3)", nil, saying(done(1, 17), 0, 3)},
		{"say(1) && say(0) && say(2)", nil, saying(done(0, anySteps), 1, 0)},
		{"say(1) && (say(0) && say(2))", nil, saying(done(0, anySteps), 1, 0)},
		{"say(0) || say(4) || say(5)", nil, saying(done(1, anySteps), 0, 4)},
		{"say(0) && say(1) || say(2)", nil, saying(done(1, anySteps), 0, 2)},
		{"say(1) || say(2) && say(3)", nil, saying(done(1, anySteps), 1)},
		{"0 && 1 / 0", nil, done(0, 2)},
		{"1 || 1 / 0", nil, done(1, 2)},
		{"1 && 1 / 0", nil, trapped(impl.WhyZero, 5)},
		{"0 || a[3]", nil, trapped(whyBound, 4)},
		{"1 / 0 && 0", nil, trapped(impl.WhyZero, 4)},
		{"1 || none()", nil, done(1, 2)},
		{"get() && get()", []int{1 << 32, 5}, done(0, 2)},
		{"(0 && get()) + get()", []int{5, 6}, done(5, 4)},
	} {
		wantValue(t, c.s, c.in, c.want)
	}
}

// Kids are done in order, each with all that lies in it; what is behind an end isn't begun.
func TestMeanInOrder(t *testing.T) {
	for _, c := range []meanCase{
		{"return say(1) - say(2) * say(3);", nil, saying(done(-5, 28), 1, 2, 3)},
		{"return (say(1) - say(2)) * say(3);", nil, saying(done(-3, 28), 1, 2, 3)},
		{"return two(say(1), say(2));", nil, saying(done(12, 26), 1, 2)},
		{"return two(say(1), two(say(2), say(3)));", nil, saying(done(33, anySteps), 1, 2, 3)},
		{"a[say(1)] = say(2); return a[1];", nil, saying(done(2, 21), 1, 2)},
		{"return a[say(1)] + a[say(2)];", nil, saying(done(0, anySteps), 1, 2)},
		{"if (say(0)) { say(1); } else { say(2); } say(3);", nil, saying(done(0, anySteps), 0, 2, 3)},
		{"if (say(4)) { say(1); } else { say(2); } say(3);", nil, saying(done(0, anySteps), 4, 1, 3)},
		{"while (say(get())) { say(9); } say(3);", []int{2, 1, 0}, saying(done(0, anySteps), 2, 9, 1, 9, 0, 3)},
		{"put(put(put(7)));", nil, saying(done(0, 6), 7, 0, 0)},
		{"put(get() * 10 + get());", []int{2, 3}, saying(done(0, 8), 23)},
		{"return two(get(), get()) * 100 + two(get(), get());", []int{1, 2, 3, 4}, done(1234, anySteps)},
		{"put(1); put(2 / 0); put(3);", nil, saying(trapped(impl.WhyZero, 9), 1)},
		{"put(1); return a[3] + say(2);", nil, saying(trapped(whyBound, 8), 1)},
		{"var x = say(1) / g + say(2);", nil, saying(trapped(impl.WhyZero, 13), 1)},
		{"g = say(1) / h; g = 2;", nil, saying(trapped(impl.WhyZero, 12), 1)},
		{"g = 4; if (1 / h) { g = 5; } g = 6;", nil, leaving(trapped(impl.WhyZero, 7), 4, 0)},
		{"g = 4; while (1 / h) { g = 5; } g = 6;", nil, leaving(trapped(impl.WhyZero, 7), 4, 0)},
		{"g = 4; return 1 / h;", nil, leaving(trapped(impl.WhyZero, 7), 4, 0)},
		{"g = 4; put(1 / h); g = 5;", nil, leaving(trapped(impl.WhyZero, 8), 4, 0)},
		{"g = 4; id(1 / h); g = 5;", nil, leaving(trapped(impl.WhyZero, 8), 4, 0)},
		{"g = 4; -(1 / h); g = 5;", nil, leaving(trapped(impl.WhyZero, 8), 4, 0)},
		{"two(say(1), 1 / 0); say(2);", nil, saying(trapped(impl.WhyZero, 14), 1)},
		{"two(1 / 0, say(1));", nil, trapped(impl.WhyZero, 6)},
	} {
		wantMainMean(t, c.s, c.in, c.want)
	}
}

// A node of each kind that isn't begun, as there was just fuel for what is ahead of it.
func TestMeanWithoutFuelForANode(t *testing.T) {
	for _, c := range []struct {
		kind  int
		s     string
		ahead int
	}{
		{impl.NNum, "put(1); 5;", 5},
		{impl.NNum, "put(1); put(2);", 6},
		{impl.NNum, "put(1); size(a); 5;", 7},
		{impl.NNum, "put(1); while (1) { }", 5},
		{impl.NNum, "put(1); while (1) { }", 7},
		{impl.NName, "put(1); g;", 5},
		{impl.NAt, "put(1); a[0];", 5},
		{impl.NCall, "put(1); get();", 5},
		{impl.NCall, "put(1); size(a);", 5},
		{impl.NUnary, "put(1); -g;", 5},
		{impl.NBinary, "put(1); g + g;", 5},
		{impl.NBinary, "put(1); g && g;", 5},
		{impl.NSet, "put(1); g = 1;", 4},
		{impl.NPut, "put(1); a[0] = 1;", 4},
		{impl.NIf, "put(1); if (1) { }", 4},
		{impl.NWhile, "put(1); while (0) { }", 4},
		{impl.NReturn, "put(1); return 1;", 4},
		{impl.NDo, "put(1); 5;", 4},
		{impl.NVar, "put(1); var x = 1;", 4},
		{impl.NBlock, "put(1); none();", 6},
		{impl.NBlock, "put(1); if (1) { }", 6},
		{impl.NBlock, "put(1); if (0) { } else { }", 6},
		{impl.NBlock, "put(1); while (1) { }", 6},
		{impl.NBlock, "put(1); while (1) { }", 8},
	} {
		s := meanHeads + "func main() { " + c.s + " put(3); }"
		r := wantAsMeant(t, s, sourceOf(t, s), nil, c.ahead)
		if want := saying(leaving(ended(impl.EndFuel, c.ahead), 0, 0), 1); !whole(r.Result, want) {
			t.Errorf("with fuel %d, where kind %d is next, %+v is told, not %+v, of %s", c.ahead, c.kind, r.Result, want, c.s)
		}
	}
}

package tests

import (
	"math"
	"strings"
	"testing"

	"loop.example/g00472/impl"
)

// ofNumbers: the operations that make a number of count numbers, without `i32.`.
func ofNumbers(count int) []string {
	if count == 1 {
		return strings.Fields("eqz clz ctz popcnt")
	}
	return strings.Fields("eq ne lt_s lt_u gt_s gt_u le_s le_u ge_s ge_u add sub mul div_s div_u rem_s rem_u and or xor shl shr_s shr_u rotl rotr")
}

// wantOperation: what the operation makes of the args, which may be any int.
func wantOperation(t *testing.T, m impl.Module, name string, args []int) {
	t.Helper()
	n, why := wantNumber(name, wantWrap(args[0]), wantWrap(args[len(args)-1]))
	want := done(n, len(args)+1)
	if why != 0 {
		want = trapped(why, len(args)+1)
	}
	wantRun(t, m, 0, args, nil, 10, want)
}

func TestOperationsOfOneNumber(t *testing.T) {
	for _, name := range ofNumbers(1) {
		m := alone(t, impl.Sig{Params: 1, Results: 1}, "local.get 0;i32."+name)
		for _, a := range samples() {
			wantOperation(t, m, name, []int{a})
		}
	}
}

func TestOperationsOfTwoNumbers(t *testing.T) {
	for _, name := range ofNumbers(2) {
		m := alone(t, impl.Sig{Params: 2, Results: 1}, "local.get 0;local.get 1;i32."+name)
		for _, a := range edges() {
			for _, b := range edges() {
				wantOperation(t, m, name, []int{a, b})
			}
			if t.Failed() {
				return
			}
		}
	}
}

// The operations by hand, each with numbers that tell it from all others, in their order.
func TestOperationsByHand(t *testing.T) {
	for _, c := range []struct {
		text string
		want int
	}{
		{"i32.const 0;i32.eqz", 1},
		{"i32.const 1;i32.eqz", 0},
		{"i32.const -2147483648;i32.eqz", 0},
		{"i32.const 7;i32.const 7;i32.eq", 1},
		{"i32.const 7;i32.const -7;i32.eq", 0},
		{"i32.const 7;i32.const -7;i32.ne", 1},
		{"i32.const -7;i32.const 7;i32.lt_s", 1},
		{"i32.const -7;i32.const 7;i32.lt_u", 0},
		{"i32.const -7;i32.const 7;i32.gt_s", 0},
		{"i32.const -7;i32.const 7;i32.gt_u", 1},
		{"i32.const -7;i32.const 7;i32.le_s", 1},
		{"i32.const -7;i32.const -7;i32.le_u", 1},
		{"i32.const -7;i32.const 7;i32.ge_s", 0},
		{"i32.const -7;i32.const 7;i32.ge_u", 1},
		{"i32.const 16;i32.clz", 27},
		{"i32.const 16;i32.ctz", 4},
		{"i32.const 21;i32.popcnt", 3},
		{"i32.const 2147483647;i32.const 1;i32.add", impl.MinI},
		{"i32.const 10;i32.const 3;i32.sub", 7},
		{"i32.const 65536;i32.const 65536;i32.mul", 0},
		{"i32.const -7;i32.const 2;i32.div_s", -3},
		{"i32.const -7;i32.const 2;i32.div_u", 2147483644},
		{"i32.const -7;i32.const 4;i32.rem_s", -3},
		{"i32.const -7;i32.const 4;i32.rem_u", 1},
		{"i32.const 12;i32.const 10;i32.and", 8},
		{"i32.const 12;i32.const 10;i32.or", 14},
		{"i32.const 12;i32.const 10;i32.xor", 6},
		{"i32.const 3;i32.const 33;i32.shl", 6},
		{"i32.const -8;i32.const 1;i32.shr_s", -4},
		{"i32.const -8;i32.const 1;i32.shr_u", 2147483644},
		{"i32.const -2147483648;i32.const 1;i32.rotl", 1},
		{"i32.const 1;i32.const 1;i32.rotr", impl.MinI},
	} {
		wantN(t, machine(t, 1, c.text), 3, nil, c.want)
	}
}

// A division that has no answer ends the run; Globals and Out stay told.
func TestDivisionsThatEnd(t *testing.T) {
	for _, name := range strings.Fields("div_s div_u rem_s rem_u") {
		wantMain(t, 1, "i32.const 3;call 1;i32.const 8;global.set 0;i32.const 1;i32.const 0;i32."+name, nil,
			leaving(saying(trapped(impl.WhyZero, 7), 3), 8, -5))
		wantMain(t, 1, "i32.const -2147483648;i32.const 0;i32."+name, nil, trapped(impl.WhyZero, 3))
		wantMain(t, 1, "i32.const 0;i32.const 0;i32."+name, nil, trapped(impl.WhyZero, 3))
	}
	wantMain(t, 1, "i32.const -2147483648;i32.const -1;i32.div_s", nil, trapped(impl.WhyOver, 3))
	wantMain(t, 1, "i32.const -2147483648;i32.const -1;i32.rem_s", nil, done(0, 3))
	wantMain(t, 1, "i32.const -2147483648;i32.const -1;i32.div_u", nil, done(0, 3))
	wantMain(t, 1, "i32.const -2147483648;i32.const -1;i32.rem_u", nil, done(impl.MinI, 3))
	wantMain(t, 1, "i32.const -2147483647;i32.const -1;i32.div_s", nil, done(impl.MaxI, 3))
}

// Args count as the number of 32 bits that they are.
func TestArgsAreWrapped(t *testing.T) {
	m := alone(t, impl.Sig{Params: 1, Results: 1}, "local.get 0")
	for _, n := range samples() {
		wantRun(t, m, 0, []int{n}, nil, 1, done(wantWrap(n), 1))
	}
	same := alone(t, impl.Sig{Params: 2, Results: 1}, "local.get 0;local.get 1;i32.eq")
	wantN(t, same, 0, []int{1 << 32, 0}, 1)
	wantN(t, same, 0, []int{math.MaxInt, -1}, 1)
	test := alone(t, impl.Sig{Params: 1, Results: 1}, "local.get 0;if 1;i32.const 1;else;i32.const 2;end")
	wantN(t, test, 0, []int{1 << 32}, 2)
	wantN(t, test, 0, []int{math.MinInt}, 2)
}

// As many Params as there may be, each one its own.
func TestMostArgs(t *testing.T) {
	var args []int
	for k := range impl.MaxLocals {
		args = append(args, k*k)
	}
	m := alone(t, impl.Sig{Params: impl.MaxLocals, Results: 1}, "local.get 0")
	m.Funcs[0].Locals = impl.MaxLocals
	for k := range 2 * impl.MaxLocals {
		m.Funcs[0].Body[0].A = k
		want := 0
		if k < len(args) {
			want = args[k]
		}
		wantN(t, m, 0, args, want)
	}
}

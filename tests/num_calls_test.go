package tests

import (
	"slices"
	"testing"

	"loop.example/g00472/impl"
)

// An answer hangs on the arguments alone, whatever was asked ahead of it, and no call of chapter 2 panics.
func TestNumAnswersHangOnArgumentsAlone(t *testing.T) {
	l := samples()
	there := map[[2]int][]int{}
	for _, a := range l {
		for _, b := range l {
			there[[2]int{a, b}] = allOf(a, b)
		}
	}
	slices.Reverse(l)
	for _, b := range l {
		for _, a := range l {
			if back := allOf(a, b); !slices.Equal(back, there[[2]int{a, b}]) {
				t.Fatalf("at %d, %d first %v, then %v", a, b, there[[2]int{a, b}], back)
			}
		}
	}
}

// What is told of a number of more than 32 bits is what is told of its Wrap.
func TestNumAnswersOfWrapAreTheSame(t *testing.T) {
	for _, a := range samples() {
		for _, b := range samples() {
			if far, near := allOf(a, b), allOf(wantWrap(a), wantWrap(b)); !slices.Equal(far, near) {
				t.Fatalf("at %d, %d %v, at their Wraps %v", a, b, far, near)
			}
		}
	}
}

// allOf: what each function of chapter 2 tells of two numbers.
func allOf(a, b int) []int {
	l := []int{impl.Wrap(a), impl.Plain(a), impl.Add(a, b), impl.Sub(a, b), impl.Mul(a, b), impl.Clz(a), impl.Ctz(a), impl.Pop(a)}
	for _, d := range []divider{divS, remS, divU, remU} {
		n, code := d.do(a, b)
		l = append(l, n, code)
	}
	for op := 0; op <= 11; op++ {
		l = append(l, impl.Bits(op, a, b), one(impl.Compare(op, a, b)))
	}
	n, ok := impl.TextNum(impl.NumText(a))
	return append(l, n, one(ok))
}

func one(yes bool) int {
	if yes {
		return 1
	}
	return 0
}

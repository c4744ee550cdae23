package tests

import (
	"testing"

	"loop.example/g00472/impl"
)

// `get`: the next of in, as a number of 32 bits; -1 where none is left.
func TestMeanOfGet(t *testing.T) {
	p := sourceOf(t, "func main() { return get(); }")
	q := sourceOf(t, "func main() { get(); return get(); }")
	for _, n := range samples() {
		if got := impl.Mean(p, []int{n}, 9); !whole(got, done(wantWrap(n), 3)) {
			t.Errorf("get() of %d is %+v", n, got)
		}
		if got := impl.Mean(q, []int{n + 1, n, 7}, 9); !whole(got, done(wantWrap(n), 5)) {
			t.Errorf("the second get() is %+v, not of %d", got, n)
		}
		if got := impl.Mean(q, []int{n}, 9); !whole(got, done(-1, 5)) {
			t.Errorf("get() behind the end of in is %+v", got)
		}
	}
	wantMean(t, "func f() { return get(); } func main() { return get() * 100 + f() * 10 + get(); }", []int{1, 2, 3, 4}, telling(123))
	wantMean(t, "func main() { put(get()); put(get()); put(get()); put(get()); }", []int{1, 2}, saying(done(0, 13), 1, 2, 255, 255))
	wantMean(t, "func main() { while (1) { put(get()); } }", []int{1, 2, 3}, saying(ended(impl.EndFuel, 20000), append([]int{1, 2, 3}, times(255, 3996)...)...))
	wantMean(t, "func main() { get(); }", []int{5, 6}, done(0, 3))
	wantMean(t, "func main() { 0 && get(); return get(); }", []int{5, 6}, telling(5))
}

// `put`: Plain of the value modulo 256, behind the others; it is 0.
func TestMeanOfPut(t *testing.T) {
	for _, c := range []struct{ n, want int }{
		{0, 0}, {1, 1}, {65, 65}, {127, 127}, {128, 128}, {255, 255}, {256, 0}, {257, 1}, {300, 44}, {-1, 255}, {-2, 254}, {-255, 1}, {-256, 0}, {-257, 255},
		{impl.MaxI, 255}, {impl.MinI, 0}, {impl.MinI + 1, 1}, {1 << 32, 0}, {1<<32 - 1, 255},
	} {
		wantMean(t, "func main() { return put(get()); }", []int{c.n}, saying(done(0, 4), c.want))
	}
	p := sourceOf(t, "func main() { return put(get()) - 1; }")
	for _, n := range samples() {
		if got := impl.Mean(p, []int{n}, 9); !whole(got, saying(done(-1, 6), wantPlain(n)%256)) {
			t.Errorf("put of %d is %+v", n, got)
		}
	}
	wantMean(t, "func f(x) { put(x); return x + 1; } func main() { put(f(f(7)) + put(3)); }", nil, saying(telling(0), 7, 8, 3, 9))
}

// `size`: the Size, which is one step; what is named isn't begun.
func TestMeanOfSize(t *testing.T) {
	wantMean(t, "int a[1]; int b[7]; int c[7992]; func main() { put(size(a)); put(size(b)); return size(c); }", nil, saying(done(7992, 9), 1, 7))
	wantMean(t, "int a[3]; func f() { return size(a); } func main() { return f() * size(a) + size(a); }", nil, telling(12))
	wantMean(t, "int a[3]; func main() { size(a); size(a); }", nil, done(0, 5))
}

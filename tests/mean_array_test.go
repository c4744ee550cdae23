package tests

import (
	"math"
	"slices"
	"strings"
	"testing"

	"loop.example/g00472/impl"
)

// indexNear: indexes within and out of an array of that size, at its ends and far from them.
func indexNear(size int) []int {
	return []int{-1, 0, size / 2, size - 1, size, size + 1, -size, 4 * size, 2 * size, impl.MinI, impl.MinI + 1, impl.MaxI, impl.MaxI - 1, 1<<32 + 1, 1 << 32, 1<<31 - size, 1<<32 - 1, -1 << 40, math.MaxInt, math.MinInt}
}

// NAt and NPut within and out; where the index is out the value isn't begun.
func TestMeanOfIndexes(t *testing.T) {
	for _, size := range []int{1, 2, 3, 100, 4000, 7996} {
		head := "int g; int z[2]; int a[" + impl.NumText(size) + "]; int b[2]; func main() { g = 4; z[1] = 5; b[0] = 6; "
		for _, n := range indexNear(size) {
			k := wantWrap(n)
			in := []int{n}
			at, put := leaving(done(0, 16), 4), leaving(saying(done(0, 15), 9), 4)
			if k < 0 || k >= size {
				at, put = leaving(trapped(whyBound, 15), 4), leaving(trapped(whyBound, 11), 4)
			}
			for _, c := range []struct {
				s    string
				want impl.Result
			}{
				{head + "g + a[get()] - g; }", at},
				{head + "a[get()] = 7 - put(9); }", put},
			} {
				p := sourceOf(t, c.s)
				if got := impl.Mean(p, in, 20000); !whole(got, c.want) {
					t.Errorf("Mean with %v is %+v, not %+v, of %s", in, got, c.want, c.s)
				}
				wantAsMeant(t, c.s, p, in, 20000)
			}
			cells := times(0, size)
			if k >= 0 && k < size {
				cells[k] = 7
			}
			wantCells(t, head+"a[get()] = 7; }", in, "a", cells...)
			wantCells(t, head+"a[get()] = 7; }", in, "z", 0, 5)
			wantCells(t, head+"a[get()] = 7; }", in, "b", 6, 0)
		}
	}
}

// The index ahead of the value, each with its own ends and outputs.
func TestMeanOfIndexAndValue(t *testing.T) {
	for _, c := range []struct {
		meanCase
		cells []int
	}{
		{meanCase{"a[say(1)] = say(2);", nil, saying(done(0, 18), 1, 2)}, []int{0, 2, 0}},
		{meanCase{"a[say(3)] = say(2);", nil, saying(trapped(whyBound, 10), 3)}, []int{0, 0, 0}},
		{meanCase{"a[0 - say(1)] = say(2);", nil, saying(trapped(whyBound, 12), 1)}, []int{0, 0, 0}},
		{meanCase{"a[1 / 0] = say(2);", nil, trapped(impl.WhyZero, 5)}, []int{0, 0, 0}},
		{meanCase{"a[1] = 4; a[say(1)] = 1 / h;", nil, saying(trapped(impl.WhyZero, 16), 1)}, []int{0, 4, 0}},
		{meanCase{"a[1] = 4; a[1] = b[2];", nil, trapped(whyBound, 8)}, []int{0, 4, 0}},
		{meanCase{"a[g] = bump();", nil, leaving(done(0, 11), 1, 0)}, []int{1, 0, 0}},
		{meanCase{"a[bump()] = g + 4;", nil, leaving(done(0, anySteps), 1, 0)}, []int{0, 5, 0}},
		{meanCase{"a[a[a[0]]] = 5;", nil, done(0, 6)}, []int{5, 0, 0}},
		{meanCase{"a[0] = 1; a[1] = 2; a[2] = a[a[a[0]]] + 7;", nil, done(0, anySteps)}, []int{1, 2, 7}},
		{meanCase{"a[2] = a[2] + 1; a[2] = a[2] + 1;", nil, done(0, anySteps)}, []int{0, 0, 2}},
		{meanCase{"a[get()] = get();", []int{2, 9}, done(0, 4)}, []int{0, 0, 9}},
		{meanCase{"a[get()] = get();", []int{9, 2}, trapped(whyBound, 3)}, []int{0, 0, 0}},
		{meanCase{"a[get()] = get();", []int{1}, done(0, 4)}, []int{0, -1, 0}},
		{meanCase{"a[get()] = get();", nil, trapped(whyBound, 3)}, []int{0, 0, 0}},
		{meanCase{"a[1] = get();", []int{1<<32 - 5}, done(0, 4)}, []int{0, -5, 0}},
		{meanCase{"a[1] = 2147483647; a[1] = a[1] + 1; return a[1];", nil, done(impl.MinI, 13)}, []int{0, impl.MinI, 0}},
		{meanCase{"b[1] = 7; b[0] = 8; a[b[1] - 6] = b[0];", nil, done(0, anySteps)}, []int{0, 8, 0}},
		{meanCase{"a[0] = 1; if (a[0]) { a[1] = 2; } else { a[2] = 3; }", nil, done(0, anySteps)}, []int{1, 2, 0}},
		{meanCase{"a[size(a) - 1] = size(b);", nil, done(0, 6)}, []int{0, 0, 2}},
	} {
		wantMainMean(t, c.s, c.in, c.want)
		wantCells(t, meanHeads+"func main() { "+c.s+" }", c.in, "a", c.cells...)
	}
	// What is put while the value is done is put over.
	over := "int a[2]; func f() { a[0] = 5; a[1] = 6; return 7; } func main() { a[0] = f(); return a[0] * 10 + a[1]; }"
	wantMean(t, over, nil, telling(76))
	wantCells(t, over, nil, "a", 7, 6)
}

// Cells of each array of a program with several, at the end of runs that end in each way.
func TestCellsAtEachEnd(t *testing.T) {
	const heads = "int g; int a[2]; int b[1]; int c[4]; func f(n) { c[2] = n; f(n + 1); } "
	for _, c := range []struct {
		end     string
		in      []int
		a, b, c []int
	}{
		{"return 1;", nil, []int{0, 3}, []int{4}, []int{0, 0, 0, 5}},
		{"", nil, []int{0, 3}, []int{4}, []int{0, 0, 0, 5}},
		{"c[4] = 1;", nil, []int{0, 3}, []int{4}, []int{0, 0, 0, 5}},
		{"a[0] = 1 / g;", nil, []int{0, 3}, []int{4}, []int{0, 0, 0, 5}},
		{"a[0] = 1; a[0] = (1 << 31) / -1;", nil, []int{1, 3}, []int{4}, []int{0, 0, 0, 5}},
		{"while (1) { b[0] = 8; }", nil, []int{0, 3}, []int{8}, []int{0, 0, 0, 5}},
		{"f(1); a[0] = 9;", nil, []int{0, 3}, []int{4}, []int{0, 0, 99, 5}},
		{"while (get()) { a[0] = a[0] + 1; }", []int{7, 7, 0}, []int{2, 3}, []int{4}, []int{0, 0, 0, 5}},
	} {
		s := heads + "func main() { a[1] = 3; b[0] = 4; c[3] = 5; " + c.end + " }"
		wantCells(t, s, c.in, "a", c.a...)
		wantCells(t, s, c.in, "b", c.b...)
		wantCells(t, s, c.in, "c", c.c...)
		for _, name := range []string{"", "d", "g", "f", "main", "n", "get", "put", "size", "A", "a ", " a", "aa", "int", "a[0]"} {
			wantCells(t, s, c.in, name)
		}
	}
	// With less fuel fewer cells are put.
	p := sourceOf(t, "int a[3]; func main() { a[0] = 1; a[1] = 2; a[2] = 3; }")
	for fuel, want := range [][]int{{0, 0, 0}, {0, 0, 0}, {0, 0, 0}, {0, 0, 0}, {1, 0, 0}, {1, 0, 0}, {1, 0, 0}, {1, 2, 0}, {1, 2, 0}, {1, 2, 0}, {1, 2, 3}, {1, 2, 3}} {
		if got := impl.Cells(p, nil, fuel, "a"); !slices.Equal(got, want) {
			t.Errorf("Cells with fuel %d is %v, not %v", fuel, got, want)
		}
	}
	for _, fuel := range []int{-1, math.MinInt, -1 << 32} {
		if got := impl.Cells(p, nil, fuel, "a"); !slices.Equal(got, []int{0, 0, 0}) {
			t.Errorf("Cells with fuel %d is %v", fuel, got)
		}
	}
}

// A name that a local has too is the array's still; without arrays there are no cells.
func TestCellsOfNames(t *testing.T) {
	wantCells(t, "int a[2]; func main() { a[0] = 1; var a = 5; var b = 6; }", nil, "a", 1, 0)
	wantCells(t, "int a[2]; func main() { a[0] = 1; var a = 5; var b = 6; }", nil, "b")
	wantCells(t, "int a; func main() { a = 1; }", nil, "a")
	wantCells(t, "func main() { }", nil, "main")
	wantCells(t, "func main() { }", nil, "")
	wantCells(t, "int get1[2]; func main() { get1[1] = 3; }", nil, "get1", 0, 3)
	wantCells(t, "int a[8000]; func main() { a[7999] = 3; }", nil, "a", append(times(0, 7999), 3)...)
	var heads, puts strings.Builder
	for k, name := range counted("a", 100) {
		heads.WriteString("int " + name + "[" + impl.NumText(1+k%7) + "]; ")
		puts.WriteString(name + "[" + impl.NumText(k%7) + "] = " + impl.NumText(k) + "; ")
	}
	for k, name := range counted("a", 100) {
		wantCells(t, heads.String()+"func main() { "+puts.String()+"}", nil, name, append(times(0, k%7), k)...)
	}
}

package tests

import (
	"math"
	"testing"

	"loop.example/g00472/impl"
)

// codedTexts: for each code of Check texts with it, which have an array `a` wherever they may.
func codedTexts() map[int][]string {
	return map[int][]string{
		takenName: {
			"int a[1]; int a; func main() { put(1); }", "int a[1]; func get() { } func main() { put(1); }", "int a[1]; func f(x, x) { } func main() { put(1); }",
			"int a[1]; func main() { put(1); var x = 1; if (0) { var x = 2; } }",
		},
		noName: {
			"int a[1]; func main() { put(1); return x; }", "int a[1]; func main() { put(1); return 0; x = 1; }", "int a[1]; func main() { put(1); 0 && f(); }",
			"int a[1]; func main() { put(1); x; var x = 1; }", "int a[1]; func f() { return x; } func main() { put(1); }", "int a[1]; func main() { put(1); return a; }",
		},
		otherArgs: {"int a[1]; func main() { put(1); get(1); }", "int a[1]; func main() { put(1); put(); }", "int a[1]; func f(x) { } func main() { put(1); f(); }", "int a[1]; func main() { main(1); }"},
		notArray:  {"int a[1]; func main() { put(1); b[0]; }", "int a[1]; int g; func main() { g[0] = 1; }", "int a[1]; func main() { var a = 1; a[0]; }", "int a[1]; func main() { size(1); }"},
		noMain:    {"", "int a[1]; func f() { put(1); }", "int a[1]; func main(x) { put(1); }", "int a[1]; int main;"},
		tooMuch:   {"int a[8001]; func main() { put(1); }", "int a[1]; int b[0]; func main() { put(1); }", "int a[1]; " + eachAs(counted("g", 30), "int *; ") + "func main() { put(1); }", "int a[1]; func main() { put(1); " + varsText(41) + "}"},
	}
}

// noPrograms: Sources that no text has, each with an array `a` and a `main`.
func noPrograms(t *testing.T) []impl.Source {
	t.Helper()
	right := sourceOf(t, "int a[1]; func main() { a[0] = 5; put(a[0]); }")
	var l []impl.Source
	for k := range right.Nodes {
		l = append(l,
			changed(right, k, func(n *impl.Node) { n.Kind = 0 }),
			changed(right, k, func(n *impl.Node) { n.At = -1 }),
			changed(right, k, func(n *impl.Node) { n.N = -1 }),
			changed(right, k, func(n *impl.Node) { n.S += "_é" }),
			changed(right, k, func(n *impl.Node) { n.Kids = append(n.Kids, k) }))
	}
	right.Fns[0].Body = 1
	return append(l, right)
}

func wantNothingMeant(t *testing.T, what string, p impl.Source) {
	t.Helper()
	for _, fuel := range []int{math.MinInt, -1, 0, 1, 100, 20000, math.MaxInt} {
		for _, in := range [][]int{nil, {1, 2, 3}} {
			if got := impl.Mean(p, in, fuel); !whole(got, bad) {
				t.Errorf("Mean with %v and fuel %d is %+v, though there is a fault, of %.200s", in, fuel, got, what)
			}
			for _, name := range []string{"a", "b", "", "main", "g", "x"} {
				if got := impl.Cells(p, in, fuel, name); len(got) != 0 {
					t.Errorf("Cells of %q is %v, though there is a fault, of %.200s", name, got, what)
				}
			}
		}
	}
}

// A program with a code has no meaning, wherever its fault lies.
func TestMeanOfProgramsWithFaults(t *testing.T) {
	for code, l := range codedTexts() {
		for _, s := range l {
			p := sourceOf(t, s)
			if got, _ := impl.Check(p); got != code {
				t.Errorf("Check is %d, not %d, of %.200s", got, code, s)
			}
			wantNothingMeant(t, s, p)
		}
	}
	for _, p := range append(noPrograms(t), impl.Source{}, impl.Source{Arrays: []impl.Array{{Name: "a", Size: 2}}}) {
		wantNothingMeant(t, short(p), p)
	}
}

// What is told with a right program that is nearly one of those.
func TestMeanOfProgramsWithoutFaults(t *testing.T) {
	wantMeans(t, []programCase{
		{"int a[8000]; func main() { put(1); }", nil, saying(done(0, 4), 1)},
		{"int a[1]; func f(x) { } func main() { put(1); f(1); }", nil, saying(done(0, 8), 1)},
		{"int a[1]; " + eachAs(counted("g", 29), "int *; ") + "func main() { g28 = 4; return g28; }", nil, leaving(done(4, 5), append(times(0, 28), 4)...)},
		{"int a[1]; func main() { put(1); " + eachAs(counted("v", 40), "var * = 1; ") + "return v0 + v39; }", nil, saying(done(2, 88), 1)},
		{eachAs(counted("f", 39), "func *() { return 3; } ") + "func main() { return f38(); }", nil, telling(3)},
	})
}

// The fuel counts as in Run: below 0 as 0, above MaxFuel as that.
func TestMeanOfFuels(t *testing.T) {
	for _, c := range []struct {
		pad   string
		steps int
	}{{"", 19997}, {"1;", 19999}, {"-1;", 20000}, {"1; 1;", 20001}, {"1; -1;", 20002}, {"while (1) { }", 40000}} {
		p := sourceOf(t, "func main() { var x = 3332; while (x) { x = x - 1; } "+c.pad+" }")
		want := done(0, c.steps)
		if c.steps > 20000 {
			want = ended(impl.EndFuel, 20000)
		}
		for _, fuel := range []int{20000, 20001, 30000, 1 << 32, 1<<32 + 5, math.MaxInt} {
			if got := impl.Mean(p, nil, fuel); !whole(got, want) {
				t.Errorf("with fuel %d and behind the loop %q Mean is %+v, not %+v", fuel, c.pad, got, want)
			}
		}
		for _, fuel := range []int{0, -1, -20000, -1 << 32, math.MinInt, math.MinInt + 7} {
			if got := impl.Mean(p, nil, fuel); !whole(got, ended(impl.EndFuel, 0)) {
				t.Errorf("with fuel %d Mean is %+v", fuel, got)
			}
		}
		for _, fuel := range []int{1, 2, 19996, 19997, 19998, 19999} {
			wantAsMeant(t, c.pad, p, nil, fuel)
		}
	}
}

package tests

import (
	"strconv"
	"strings"
	"testing"

	"loop.example/g00472/impl"
)

func TestCheckOfRightPrograms(t *testing.T) {
	for _, s := range []string{
		"func main() { }",
		"int g; int a[1]; func main() { }",
		"func main() { } func f(x) { } int g; int a[8000];",
		"func f() { } func main() { f(); }",
		"func main() { f(); } func f() { }",
		"func main() { main(); }",
		"int g; func main() { g = g + 1; return g; }",
		"int a[3]; func main() { a[0] = a[1] + size(a); }",
		"func main() { put(get()); }",
		"func f(x, y) { x = y; return x; } func main() { return f(f(1, 2), get()); }",
		"func main() { var x = 1; while (x) { var y = x; x = y - 1; } return y; }",
		"func main() { if (get()) { var x = 1; } else { x = 2; } return x; }",
		"func f(main) { return main(); } func main() { }",
		"int mains; int gets; int sizes[1]; func putx() { } func main() { return gets; }",
	} {
		wantCheck(t, 0, s)
	}
	wantCheckAt(t, "each kind of node but for what it names", mainOf(tVar("x", tNum(1)), tSet("x", tUnary("-", tName("x"))), tIf(tBinary("+", tName("x"), tNum(impl.MaxI)), tBlock(), tBlock()), tWhile(tName("x"), tBlock()), tReturn(tCall("get")), tDo(tNum(0))), 0, 0)
}

// Whatever FormOk2 refuses has code 20, and no place.
func TestCheckOfNoPrograms(t *testing.T) {
	wrong := []impl.Source{
		{Globals: []string{"if"}}, {Globals: []string{""}}, {Arrays: []impl.Array{{}}}, {Arrays: []impl.Array{{Name: "a", Size: -1}}}, {Arrays: []impl.Array{{Name: "a", Size: 1 << 31}}},
		{Fns: []impl.Fn{{}}}, {Fns: []impl.Fn{{Name: "main"}}}, {Nodes: []impl.Node{{}}}, {Nodes: []impl.Node{{Kind: impl.NBlock}}},
		laid(impl.Source{Fns: []impl.Fn{{Name: "main", Params: []string{"abcdefghijklm"}}}}, tBlock()),
		ofNodes(impl.Node{Kind: impl.NBlock, At: -1}), ofNodes(impl.Node{Kind: impl.NBlock, N: 1}), ofNodes(impl.Node{Kind: impl.NBlock, S: "x"}), ofNodes(impl.Node{Kind: impl.NBlock, Kids: []int{0}}), ofNodes(impl.Node{Kind: impl.NBlock, Kids: []int{1}}), ofNodes(impl.Node{Kind: impl.NNum}),
		mainOf(tNum(1)), mainOf(tDo(tNum(-1))), mainOf(tDo(tName("X"))), mainOf(tDo(tUnary("+", tNum(1)))), mainOf(tDo(tBlock())), mainOf(tIf(tNum(1))),
	}
	for _, p := range wrong {
		for k := range p.Nodes {
			if p.Nodes[k].At == 0 {
				p.Nodes[k].At = 7
			}
		}
		wantCheckAt(t, short(p), p, noProgram, 0)
	}
	right := mainOf(times(tDo(tNum(1)), 399)...)
	wantCheckAt(t, "799 nodes", right, 0, 0)
	wantCheckAt(t, "801 nodes", mainOf(times(tDo(tNum(1)), 400)...), noProgram, 0)
	for deep := 54; deep < 60; deep++ {
		v := tNum(1)
		for range deep {
			v = tUnary("-", v)
		}
		p := mainOf(tReturn(v))
		wantCheckAt(t, "signs", p, one(!hasText(p))*noProgram, 0)
	}
}

// A change in one node of a right program: 20 where there is no text of it any more.
func TestCheckOfChangedNodes(t *testing.T) {
	p := sourceOf(t, "int g; int a[4]; func main() { var x = 1; g = x; a[2] = -3; if (x) { f(1, 2); } else { } while (a[3]) { return x + size(a); } 7; } func f(p, q) { return get(); }")
	wantCheckAt(t, "the program itself", p, 0, 0)
	for k := range p.Nodes {
		for what, change := range map[string]func(n *impl.Node){
			"At 0":      func(n *impl.Node) { n.At = 0 },
			"At below":  func(n *impl.Node) { n.At = -1 },
			"Kind":      func(n *impl.Node) { n.Kind++ },
			"no kind":   func(n *impl.Node) { n.Kind = 0 },
			"N":         func(n *impl.Node) { n.N++ },
			"N below":   func(n *impl.Node) { n.N = -1 },
			"S":         func(n *impl.Node) { n.S = "f" },
			"no S":      func(n *impl.Node) { n.S = "" },
			"a sign":    func(n *impl.Node) { n.S = "-" },
			"no kids":   func(n *impl.Node) { n.Kids = nil },
			"more kids": func(n *impl.Node) { n.Kids = append(n.Kids, k+1) },
		} {
			wantAsChecked(t, what+" of node "+strconv.Itoa(k), changed(p, k, change))
		}
	}
	for fn := range p.Fns {
		q := copiedSource(p)
		q.Fns[fn].Body++
		wantCheckAt(t, "another Body", q, noProgram, 0)
	}
}

// heads: for each of the three sorts the text of a head with that name.
func heads(name string) []string {
	return []string{"int " + name + "; ", "int " + name + "[1]; ", "func " + name + "() { } "}
}

// A name that comes twice: within each sort, and between each two, in each order of the text.
func TestCheckOfNamesThatComeTwice(t *testing.T) {
	for _, first := range heads("x") {
		for _, last := range heads("x") {
			wantCheck(t, takenName, first+last+"func main() { }")
			wantCheck(t, takenName, first+"func main() { } "+last)
			wantCheck(t, takenName, "func main() { } int g; func f(x) { } "+first+"int b[1]; "+last)
		}
		for _, last := range heads("y") {
			wantCheck(t, 0, first+last+"func main() { }")
			wantCheck(t, takenName, first+last+first+"func main() { }")
			wantCheck(t, takenName, first+last+last+"func main() { }")
		}
		wantCheck(t, 0, first+"func main() { }")
	}
	for _, name := range []string{"get", "put", "size"} {
		for _, head := range heads(name) {
			wantCheck(t, takenName, head+"func main() { }")
			wantCheck(t, takenName, "int g; int a[1]; func main() { } "+head)
		}
	}
	for _, name := range []string{"gets", "pu", "size1", "sizes", "abcdefghijkl"} {
		for _, head := range heads(name) {
			wantCheck(t, 0, head+"func main() { }")
		}
	}
	wantCheck(t, takenName, "func main() { } func main() { }")
	wantCheck(t, takenName, "func main() { } func main(x) { }")
	wantCheck(t, takenName, "int main; func main() { }")
	wantCheck(t, takenName, "int main[1]; func main() { }")
	wantCheck(t, takenName, "int main; int main[1];")
}

// sizesOf: a program with these arrays.
func sizesOf(sizes ...int) impl.Source {
	p := mainOf()
	for k, name := range counted("a", len(sizes)) {
		p.Arrays = append(p.Arrays, impl.Array{Name: name, Size: sizes[k]})
	}
	return p
}

func TestCheckOfSizes(t *testing.T) {
	const most = impl.MaxI
	for _, sizes := range [][]int{nil, {1}, {8000}, {1, 7999}, {7999, 1}, {4000, 4000}, {1, 1, 1}, times(1, 8000), times(2, 4000), times(80, 100)} {
		p := sizesOf(sizes...)
		if code, at := impl.Check(p); code != 0 || at != 0 {
			t.Errorf("Check of the sizes %s is %d, %d", short(sizes), code, at)
		}
		if len(sizes) < 200 {
			wantCheckAt(t, short(sizes), p, 0, 0)
		}
	}
	for _, sizes := range [][]int{
		{0}, {1, 0}, {0, 1}, {0, 0}, {1, 0, 1}, {8000, 0}, {8001}, {1, 8000}, {8000, 1}, {4000, 4001}, {4001, 4000}, {7999, 2}, {1, 7999, 1}, append(times(80, 100), 1), append([]int{1}, times(80, 100)...),
		{most}, {most - 1}, {most, most}, {most, most, 2}, {most, most, 3}, {2, most, most}, {1 << 30, 1 << 30, 1 << 30, 1 << 30}, {1 << 30, 1 << 30, 1 << 30, 1 << 30, 5}, append(times(most, 4), 4), append(times(1<<30, 8), 1), times(1<<16, 90), times(most, 150),
	} {
		wantCheckAt(t, short(sizes), sizesOf(sizes...), tooMuch, 0)
	}
	for _, sizes := range [][]int{times(1, 8001), append(times(1, 8000), 0), append(times(2, 4000), 1), times(most, 9000)} {
		if code, at := impl.Check(sizesOf(sizes...)); code != tooMuch || at != 0 {
			t.Errorf("Check of the sizes %s is %d, %d", short(sizes), code, at)
		}
	}
}

// As many functions, globals and params as go, and one more.
func TestCheckOfCounts(t *testing.T) {
	for count, code := range map[int]int{0: 0, 1: 0, 38: 0, 39: 0, 40: tooMuch, 41: tooMuch, 60: tooMuch} {
		wantCheck(t, code, eachAs(counted("f", count), "func *() { } ")+"func main() { }")
		wantCheck(t, code, "func main() { } "+eachAs(counted("f", count), "func *() { } "))
	}
	for count, code := range map[int]int{0: 0, 1: 0, 28: 0, 29: 0, 30: tooMuch, 31: tooMuch, 100: tooMuch} {
		wantCheck(t, code, eachAs(counted("g", count), "int *; ")+"func main() { }")
		wantCheck(t, code, "int a[1]; func main() { } "+eachAs(counted("g", count), "int *; "))
	}
	for count, code := range map[int]int{0: 0, 1: 0, 39: 0, 40: 0, 41: tooMuch, 42: tooMuch, 100: tooMuch} {
		params := strings.Join(counted("p", count), ", ")
		wantCheck(t, code, "func f("+params+") { } func main() { }")
		wantCheck(t, code, "func main() { } func f() { } func h("+params+") { }")
	}
	// Arrays are as many as there are cells.
	wantCheck(t, 0, eachAs(counted("a", 200), "int *[40]; ")+"func main() { }")
	wantCheck(t, 0, eachAs(counted("g", 29), "int *; ")+eachAs(counted("a", 100), "int *[80]; ")+eachAs(counted("f", 39), "func *() { } ")+"func main() { }")
	// Not params of all functions together.
	params := strings.Join(counted("p", 40), ", ")
	wantCheck(t, 0, eachAs(counted("f", 20), "func *("+params+") { } ")+"func main() { }")
	// Params that come twice are counted too.
	wantCheck(t, tooMuch, "func f("+strings.Join(times("p", 41), ", ")+") { } func main() { }")
	wantCheck(t, takenName, "func f("+strings.Join(times("p", 40), ", ")+") { } func main() { }")
}

func TestCheckOfMain(t *testing.T) {
	for _, s := range []string{"", "int g;", "int main;", "int main[1];", "func f() { }", "func main(x) { }", "func main(x, y) { }", "func f(main) { var x = main; }", "func f() { var main = 1; }", "func mai() { } func main1() { }", "func f() { main(); }", "func main(get) { }"} {
		wantCheck(t, noMain, s)
	}
	for _, s := range []string{"func main() { }", "func main() { } func f(x) { }", "func f(x) { } func main() { }", "func f() { } func main() { } func h() { }"} {
		wantCheck(t, 0, s)
	}
	wantCheckAt(t, "nothing", impl.Source{}, noMain, 0)
}

// Which of several faults of the heads is told: 20, 21, 26, 25, then those of the functions.
func TestCheckOfSeveralFaultsOfHeads(t *testing.T) {
	taken := []string{"int x; int x; ", "int size; ", "func g(p) { } int g[1]; "}
	much := []string{"int a[0]; ", "int b[9000]; ", eachAs(counted("g", 30), "int *; "), "func h(" + strings.Join(counted("p", 41), ", ") + ") { } ", eachAs(counted("h", 41), "func *() { } ")}
	none := []string{"", "func main(x) { } ", "int main; "}
	inner := []string{"", "func k(x, x) { } ", "func k() { return y; } "}
	for _, c := range none {
		for _, d := range inner {
			for _, b := range much {
				for _, a := range taken {
					wantCheck(t, takenName, a+b+c+d)
					wantCheck(t, takenName, d+c+b+a)
				}
				wantCheck(t, tooMuch, b+c+d)
				wantCheck(t, tooMuch, d+c+b)
			}
			for _, a := range taken {
				wantCheck(t, takenName, a+c+d)
				wantCheck(t, takenName, d+c+a)
			}
			wantCheck(t, noMain, c+d)
			wantCheck(t, noMain, d+c)
		}
	}
	// No program at all comes ahead of each of them.
	for _, s := range []string{"int x; int x; func main() { }", "int a[0]; func main() { }", "func main(x) { }", "func main() { return y; }"} {
		p := sourceOf(t, s)
		p.Nodes[0].At = -1
		wantCheckAt(t, s, p, noProgram, 0)
	}
}

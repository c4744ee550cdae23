package tests

import (
	"math"
	"strings"
	"testing"

	"loop.example/g00472/impl"
)

// useHeads: a global, two arrays and functions with none to three params.
const useHeads = "int g; int a[3]; int b[1]; func f0() { } func f1(x) { } func f2(x, y) { var z = x; } func f3(x, y, w) { } "

// laidInto: statements that the expression lies in, each in its own way.
func laidInto(expression string) []string {
	var l []string
	for _, s := range []string{"*;", "return *;", "var v = *;", "g = *;", "a[*] = 1;", "a[0] = *;", "if (*) { }", "if (1) { *; } else { }", "if (1) { } else { *; }", "while (*) { }", "while (1) { *; }", "-*;", "1 + *;", "* + 1;", "f1(*);", "f3(1, *, 2);", "a[*];", "put(~(1 + *));"} {
		l = append(l, strings.ReplaceAll(s, "*", expression))
	}
	return l
}

// wantExpressionCheck: Check tells the code of the expression, wherever it lies.
func wantExpressionCheck(t *testing.T, code int, expression string) {
	t.Helper()
	for _, s := range laidInto(expression) {
		wantMainCheck(t, code, useHeads, s)
		wantCheck(t, code, useHeads+"func k(p) { "+s+" } func main() { }")
	}
}

// An index is that of an array.
func TestCheckOfIndexes(t *testing.T) {
	for _, name := range []string{"g", "f0", "f1", "main", "x", "v1", "get", "put", "size", "abcdefghijkl"} {
		wantExpressionCheck(t, notArray, "@"+name+"[0]")
		wantMainCheck(t, notArray, useHeads, "@"+name+"[0] = 1;")
		wantMainCheck(t, notArray, useHeads, "@"+name+"[q] = r;")
		wantMainCheck(t, notArray, useHeads, "if (1) { while (2) { @"+name+"[0] = 1; } }")
	}
	for _, name := range []string{"a", "b"} {
		for _, index := range []string{"0", "1", "3", "2147483647", "-1", "g", "a[b[0]]", "size(a)", "f2(1, a[2])"} {
			wantExpressionCheck(t, 0, name+"["+index+"]")
			wantMainCheck(t, 0, useHeads, name+"["+index+"] = "+name+"["+index+"];")
		}
		for _, wrong := range []string{"@x", "@a", "@f0", "1 + @x"} {
			wantExpressionCheck(t, noName, name+"["+wrong+"]")
		}
	}
	wantExpressionCheck(t, notArray, "a[@g[0]]")
	wantExpressionCheck(t, notArray, "a[b[@x[b[0]]]]")
}

// The argument of `size` is the name of an array, and nothing else.
func TestCheckOfSizeOf(t *testing.T) {
	for _, arg := range []string{"a", "b", "(a)", "((b))"} {
		wantExpressionCheck(t, 0, "size("+arg+")")
	}
	for _, arg := range []string{"1", "0", "g", "x", "f0", "get", "size", "main", "a[0]", "b[size(a)]", "-a", "!a", "a + b", "a + 1", "f0()", "get()", "size(a)", "size(1)", "x[0]", "x + y", "f1()"} {
		wantExpressionCheck(t, notArray, "@size("+arg+")")
	}
	wantMainCheck(t, notArray, useHeads, "var x = 1; return @size(x);")
	wantMainCheck(t, notArray, useHeads, "var a = 1; return size(b) + @size(a);")
	wantCheck(t, notArray, useHeads+"func k(a) { return @size(a); } func main() { }")
	wantMainCheck(t, 0, useHeads, "var v = size(a); var a = v;")
	wantMainCheck(t, 0, useHeads, "var v = size(a) + a[size(a)]; var a = size(a);")
	// The name that is sized isn't asked as a number, what else names it is.
	wantMainCheck(t, noName, useHeads, "return size(a) + @a;")
	wantMainCheck(t, noName, useHeads, "return f2(size(a), @a);")
}

// argsText: so many arguments.
func argsText(count int) string { return strings.Join(times("1", count), ", ") }

// A call is one of a function, with as many arguments as it has.
func TestCheckOfCalls(t *testing.T) {
	for count := range 6 {
		for _, name := range []string{"g", "a", "b", "x", "f", "f4", "abcdefghijkl", "mai"} {
			wantExpressionCheck(t, noName, "@"+name+"("+argsText(count)+")")
		}
		for name, params := range map[string]int{"f0": 0, "f1": 1, "f2": 2, "f3": 3, "main": 0, "get": 0, "put": 1} {
			marked := name + "(" + argsText(count) + ")"
			if count == params {
				wantExpressionCheck(t, 0, marked)
			} else {
				wantExpressionCheck(t, otherArgs, "@"+marked)
			}
		}
		if count != 1 {
			wantExpressionCheck(t, otherArgs, "@size("+argsText(count)+")")
		}
	}
	for _, args := range []string{"a, b", "a, a", "a, 1", "1, a", "a, b, a", "x, y"} {
		wantExpressionCheck(t, otherArgs, "@size("+args+")")
	}
	wantCheck(t, 0, "func f(x) { return f(f(x)) + k(); } func k() { f(main()); } func main() { }")
	wantCheck(t, otherArgs, "func f(x) { return f(@f()) + k(); } func k() { } func main() { }")
	wantCheck(t, otherArgs, "func main() { @main(1); }")
	params := counted("p", 40)
	for count, code := range map[int]int{39: otherArgs, 40: 0, 41: otherArgs} {
		call := strings.TrimPrefix("@many("+argsText(count)+");", strings.Repeat("@", one(code == 0)))
		wantCheck(t, code, "func many("+strings.Join(params, ", ")+") { } func main() { "+call+" }")
	}
}

// The place that is told is the node's At, whatever that is.
func TestCheckTellsAtOfTheNode(t *testing.T) {
	for _, s := range []string{"func main() { var x = 1; @var x = 2; }", "func main() { return @x; }", "func main() { @x = 1; }", "func main() { return @x[0]; }", "func main() { @x[0] = 1; }", "func main() { @x(); }", "func main() { @main(1, 2); }", "int a[1]; func main() { -@size(-a); }", "func main() { " + varsText(40) + "@var x = 1; }"} {
		p := sourceOf(t, strings.ReplaceAll(s, "@", ""))
		code, place := impl.Check(p)
		if place != strings.Index(s, "@") {
			t.Errorf("Check of %.100q has place %d", s, place)
		}
		for k := range p.Nodes {
			if p.Nodes[k].At != place {
				p.Nodes[k].At = 0
			}
		}
		for _, at := range []int{0, 1, 6001, 1 << 32, 1<<32 + 1, math.MaxInt} {
			q := copiedSource(p)
			for k := range q.Nodes {
				if q.Nodes[k].At == place {
					q.Nodes[k].At = at
				}
			}
			wantCheckAt(t, s, q, code, at)
		}
	}
}

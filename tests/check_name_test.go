package tests

import (
	"strings"
	"testing"
)

func TestCheckOfParamsThatComeTwice(t *testing.T) {
	for _, params := range []string{"a, a", "a, a, b", "a, b, a", "b, a, a", "a, b, c, d, b", "main, main", "get, get", "f, f"} {
		wantCheck(t, takenName, "func f("+params+") { } func main() { }")
		wantCheck(t, takenName, "func main() { } func f("+params+") { return x; }")
	}
	for _, params := range []string{"a", "a, b", "main", "f", "get, put, size", "g", "h, f, x, g, main"} {
		wantCheck(t, 0, "int g; int x[1]; func f("+params+") { } func h("+params+") { } func main() { }")
	}
}

// An NVar whose name is a local of its function already, whatever block that one lies in.
func TestCheckOfVarsThatComeTwice(t *testing.T) {
	for _, s := range []string{
		"var x = 1; @var x = 2;",
		"var x = 1; var y = 2; @var x = 3;",
		"var x = 1; if (1) { @var x = 2; }",
		"var x = 1; if (1) { } else { @var x = 2; }",
		"var x = 1; while (1) { @var x = 2; }",
		"if (1) { var x = 1; } @var x = 2;",
		"if (1) { var x = 1; } else { @var x = 2; }",
		"if (1) { } else { var x = 1; } @var x = 2;",
		"while (1) { var x = 1; } @var x = 2;",
		"while (1) { if (1) { var x = 1; } } if (1) { while (1) { @var x = 2; } }",
		"var x = 1; @var x = x;",
		"var x = 1; @var x = 2; var x = 3; return y;",
		"var get = 1; @var get = 2;",
		"var main = 1; @var main = 2;",
	} {
		wantMainCheck(t, takenName, "", s)
		wantMainCheck(t, takenName, "int x; func f(x) { }", s)
	}
	for _, s := range []string{"@var p = 1;", "@var q = 1;", "if (1) { while (2) { @var p = q; } }", "p = q; var x = p; @var q = x;", "@var main = 1;"} {
		wantCheck(t, takenName, "func f(p, q, main) { "+s+" } func main() { }")
		wantCheck(t, takenName, "func main() { } func f(p, q, main) { "+s+" }")
	}
	for _, s := range []string{"var x = 1; var y = 2;", "var x = 1; x = 2;", "if (1) { var x = 1; } else { var y = 2; }", "var a = 1; var f = 2; var g = 3; var main = 4; var get = 5; var put = 6; var size = 7;"} {
		wantMainCheck(t, 0, "int g; int a[1]; func f(y) { var x = y; } func h(x) { var y = x; }", s)
	}
}

// varsText: the statements of so many locals, each in its own way.
func varsText(count int) string {
	var b strings.Builder
	for k, name := range counted("v", count) {
		switch k % 4 {
		case 0:
			b.WriteString("var " + name + " = 1; ")
		case 1:
			b.WriteString("if (1) { var " + name + " = 2; } ")
		case 2:
			b.WriteString("if (1) { } else { var " + name + " = 3; } ")
		case 3:
			b.WriteString("while (1) { var " + name + " = 4; } ")
		}
	}
	return b.String()
}

// As many locals as go, params and NVars together, and one more.
func TestCheckOfHowManyLocals(t *testing.T) {
	for _, params := range []int{0, 1, 2, 20, 38, 39, 40} {
		head := "func f(" + strings.Join(counted("p", params), ", ") + ") { "
		vars := varsText(40 - params)
		wantCheck(t, 0, head+vars+"} func main() { }")
		wantCheck(t, 0, "func main() { "+varsText(40)+"} "+head+vars+"}")
		wantCheck(t, tooMuch, head+vars+"@var x = 1; } func main() { }")
		wantCheck(t, tooMuch, head+vars+"if (1) { while (2) { @var x = 1; } } } func main() { }")
		wantCheck(t, tooMuch, head+vars+"@var x = 1; var y = z; var q = 1; } func main() { }")
		wantCheck(t, tooMuch, "func main() { "+varsText(40)+"} "+head+vars+"@var x = 1; }")
		// What is taken isn't one local more; of both faults the name's is told, and ahead of both what lies in the node.
		if params > 0 {
			wantCheck(t, takenName, head+vars+"@var p0 = 1; } func main() { }")
		}
		if params < 40 {
			wantCheck(t, takenName, head+vars+"@var v0 = 1; } func main() { }")
		}
		wantCheck(t, noName, head+vars+"var x = @x; } func main() { }")
		wantCheck(t, otherArgs, head+vars+"var x = @get(1); } func main() { }")
	}
}

// usesOf: statements in which the name stands for a number, with its place.
func usesOf(name string) []string {
	l := []string{"@* = 1;"}
	for _, s := range []string{"@*;", "return @*;", "-@*;", "1 + @*;", "@* + 1;", "put(@*);", "if (@*) { }", "while (@*) { }", "if (1) { @*; }", "if (1) { } else { @*; }", "while (1) { @*; }", "b[@*];", "b[@*] = 1;", "b[1] = @*;", "k = @*;", "var v = @*;", "h(1, @*);", "put(b[-(1 + @*)]);", "(@*);", "~!-@*;"} {
		l = append(l, s)
	}
	for k := range l {
		l[k] = strings.ReplaceAll(l[k], "*", name)
	}
	return l
}

// usesHeads: what the uses name beside it.
const usesHeads = "int k; int b[2]; int c[1]; func h(p, q) { var r = p; } "

func TestCheckOfNamesThatAreNowhere(t *testing.T) {
	for _, name := range []string{"x", "main", "h", "c", "get", "put", "size", "p", "r", "abcdefghijkl"} {
		for _, s := range usesOf(name) {
			// Named nowhere, or an array or a function, or in another function only.
			wantMainCheck(t, noName, usesHeads, s)
			wantMainCheck(t, noName, usesHeads+"func z("+name+") { } func y() { var "+name+" = 1; "+name+"; }", s)
			// Named behind only.
			wantMainCheck(t, noName, usesHeads, s+" var "+name+" = 1;")
			wantMainCheck(t, noName, usesHeads, "if (1) { "+s+" } else { var "+name+" = 1; }")
			// Named ahead.
			right := strings.Replace(s, "@", "", 1)
			wantMainCheck(t, 0, usesHeads, "var "+name+" = 1; "+right)
			wantMainCheck(t, 0, usesHeads, "if (1) { var "+name+" = 1; } else { } "+right)
			wantMainCheck(t, 0, usesHeads, "while (0) { var "+name+" = 1; "+right+" }")
			wantCheck(t, 0, usesHeads+"func z("+name+") { "+right+" } func main() { }")
		}
	}
}

func TestCheckOfGlobals(t *testing.T) {
	for _, s := range usesOf("x") {
		right := strings.Replace(s, "@", "", 1)
		wantMainCheck(t, 0, usesHeads+"int x; ", right)
		wantCheck(t, 0, "func main() { "+right+" } "+usesHeads+"int x;")
		wantMainCheck(t, 0, "int x; "+usesHeads, right+" var x = 1; "+strings.Replace(right, "var v", "var w", 1))
		wantMainCheck(t, noName, usesHeads+"int y; ", s)
	}
}

// What an NVar's kid names isn't its own local, at any depth; a global of the name goes.
func TestCheckOfVarsWithinThemselves(t *testing.T) {
	for _, s := range []string{"var x = @x;", "var x = -@x;", "var x = 1 + @x;", "var x = @x + 1;", "var x = put(@x);", "var x = b[@x];", "if (1) { var x = @x; }", "while (1) { var x = @x; }", "var y = 1; var x = y + @x;", "var x = @x; var x = 1;"} {
		wantMainCheck(t, noName, usesHeads, s)
		wantCheck(t, noName, usesHeads+"func z(y1) { "+s+" } func main() { }")
	}
	for _, s := range []string{"var x = x;", "var x = x + x; x = x;", "var x = put(-x);", "if (x) { var x = x; } x = 1;"} {
		wantMainCheck(t, 0, "int x; ", s)
	}
	wantMainCheck(t, takenName, "int x; ", "var x = x; @var x = x;")
}

// A local that has the name of a global, an array or a function hides the first two, from its NVar on.
func TestCheckOfLocalsThatHide(t *testing.T) {
	wantMainCheck(t, 0, "int g; ", "g = 1; var g = g; g = 2; return g;")
	wantMainCheck(t, 0, "int a[1]; ", "a[0] = a[0] + size(a); var a = a[0] + size(a); a = a; return a;")
	wantMainCheck(t, 0, "func f() { } ", "f(); var f = f(); f = f() + f; return f;")
	wantMainCheck(t, 0, "", "var main = main(); return main + main();")
	wantMainCheck(t, 0, "int a[1]; ", "var get = get(); var put = put(get); var size = size(a); put(put + get() + get); return size + size(a);")
	wantMainCheck(t, noName, "int a[1]; ", "@a; var a = 1;")
	wantMainCheck(t, noName, "int a[1]; ", "@a = 1; var a = 1;")
	wantMainCheck(t, noName, "func f() { } ", "@f; var f = 1;")
	wantMainCheck(t, noName, "func f() { } ", "@f = f(); var f = 1;")
	for _, s := range []string{"return @a[0];", "@a[0] = 1;", "return @size(a);", "if (1) { put(@a[0]); }", "a = @a[a];", "while (@a[1]) { }"} {
		wantMainCheck(t, notArray, "int a[1]; ", "var a = 1; "+s)
		wantMainCheck(t, notArray, "int a[1]; ", "if (a[0]) { a[size(a)] = 1; var a = a[0]; } "+s)
		wantCheck(t, notArray, "int a[1]; func f(a) { "+s+" } func main() { }")
		wantCheck(t, notArray, "func main() { return a[size(a)]; } func f(x, a, y) { "+s+" } int a[1];")
		right := strings.Replace(strings.Replace(s, "@", "", 1), "a = a[a]", "a[0] = a[0]", 1)
		wantMainCheck(t, 0, "int a[1]; func f(a) { var b = a; } func h() { var a = 1; } ", right+" var a = 1;")
	}
	// A local hides no function, ready ones and its own one neither.
	wantCheck(t, 0, "func f(f, main, get, put, size) { return f(f, main(), get(), put(put), 1) + get; } func main() { }")
	wantCheck(t, otherArgs, "func f(f) { return @f(); } func main() { }")
	wantCheck(t, noName, "func f(x) { return @x(); } func main() { }")
}

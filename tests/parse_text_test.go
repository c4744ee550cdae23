package tests

import (
	"slices"
	"strings"
	"testing"

	"loop.example/g00472/impl"
)

func TestParseOfNothing(t *testing.T) {
	wantParsed(t, "", parsed{})
	for _, s := range texts([]string{" ", "\t", "\n", "\r", "/**/", "/* int # */"}, 3) {
		wantParsed(t, s, parsed{})
	}
	wantParsed(t, strings.Repeat(" ", 6000), parsed{})
	wantParsed(t, strings.Repeat("/**/", 1500), parsed{})
}

// Lex's codes are told with Lex's places, whatever else is wrong in the text, also ahead of them.
func TestParseTellsLexsCodes(t *testing.T) {
	wantParseFault(t, strings.Repeat(" ", 6001), tooLongText, 0)
	wantParseFault(t, "x"+strings.Repeat(" ", 6000), tooLongText, 0)
	wantParseFault(t, strings.Repeat("x;", 3001), tooLongText, 0)
	for _, f := range faulties() {
		for _, ahead := range []string{"", "int g; ", "x ", "1 = 2; ", "func main() { return ", "int abcdefghijklm; ", "func main() { " + strings.Repeat("-", 100) + "1; } ", "func main() { " + strings.Repeat("x;", 500) + " } "} {
			wantParseFault(t, ahead+f.s, f.code, len(ahead)+f.at)
			wantParseFault(t, ahead+f.s+" x", f.code, len(ahead)+f.at)
		}
	}
	wantParseFault(t, "#"+strings.Repeat(" ", 6000), tooLongText, 0)
}

// wantHeads: Parse tells p of a text without functions.
func wantHeads(t *testing.T, s string, p impl.Source) {
	t.Helper()
	wantParsed(t, s, parsed{p: p})
}

func TestParseOfGlobalsAndArrays(t *testing.T) {
	wantHeads(t, "int g;", impl.Source{Globals: []string{"g"}})
	wantHeads(t, "int a[0];", impl.Source{Arrays: []impl.Array{{Name: "a"}}})
	wantHeads(t, "int a[2147483647];", impl.Source{Arrays: []impl.Array{{Name: "a", Size: 2147483647}}})
	wantHeads(t, "int a[0002147483647];", impl.Source{Arrays: []impl.Array{{Name: "a", Size: 2147483647}}})
	wantHeads(t, "int a[007];int a[000];", impl.Source{Arrays: []impl.Array{{Name: "a", Size: 7}, {Name: "a"}}})
	wantParseFault(t, "int a[2147483648];", greatNumber, 6)
	// What a program must be is asked later: names may come again, and be such as stand ready.
	wantHeads(t, "int g; int g; int get; int size[1]; int main;", impl.Source{Globals: []string{"g", "g", "get", "main"}, Arrays: []impl.Array{{Name: "size", Size: 1}}})
	for s, at := range map[string]int{
		"int": 3, "int ": 4, "int;": 3, "int g": 5, "int g ": 6, "int g,h;": 5, "int g = 1;": 6, "int g h;": 6, "int 1;": 4, "int [1];": 4,
		"int if;": 4, "int int;": 4, "int g;;": 6, "int g; ;": 7, "int g]": 5, "int g()": 5,
		"int a[": 6, "int a[]": 6, "int a[];": 6, "int a[x];": 6, "int a[-1];": 6, "int a[1": 7, "int a[1;": 7, "int a[1+1];": 7, "int a[1]": 8, "int a[1] = 0;": 9, "int a[1][2];": 8, "int a[1]]": 8, "int a[(1)];": 6, "int a{1};": 5,
		"g": 0, "g;": 0, "1": 0, ";": 0, "}": 0, "{ }": 0, "g = 1;": 0, "var g = 1;": 0, "return 1;": 0, "if (1) { }": 0, "(": 0, "int g; g": 7,
	} {
		wantParseFault(t, s, wrongToken, at)
	}
}

func TestParseOfFunctions(t *testing.T) {
	empty := func(at int) tree { return tBlock().placedAt(at) }
	fn := func(name string, params ...string) impl.Fn { return impl.Fn{Name: name, Params: params} }
	wantParsed(t, "func f() { }", parsed{p: laid(impl.Source{Fns: []impl.Fn{fn("f")}}, empty(9))})
	wantParsed(t, "func f(){}", parsed{p: laid(impl.Source{Fns: []impl.Fn{fn("f")}}, empty(8))})
	wantParsed(t, "func f(x) { }", parsed{p: laid(impl.Source{Fns: []impl.Fn{fn("f", "x")}}, empty(10))})
	wantParsed(t, "func f(x, y, x) { }", parsed{p: laid(impl.Source{Fns: []impl.Fn{fn("f", "x", "y", "x")}}, empty(16))})
	wantParsed(t, "func get(put,size){}func get(){}", parsed{p: laid(impl.Source{Fns: []impl.Fn{fn("get", "put", "size"), fn("get")}}, empty(18), empty(30))})
	many := times("p", 1000)
	wantParsed(t, "func f("+strings.Join(many, ",")+") { }", parsed{p: laid(impl.Source{Fns: []impl.Fn{fn("f", many...)}}, empty(2008))})
	wantParsed(t, strings.Repeat("func f(){}", 600), parsed{p: manyFunctions(600)})
	for s, at := range map[string]int{
		"func": 4, "func (": 5, "func 1()": 5, "func if()": 5, "func f": 6, "func f {": 7, "func f)": 6, "func f[": 6, "func f(": 7, "func f(,": 7, "func f(1": 7, "func f(if": 7, "func f((": 7, "func f(x": 8, "func f(x y": 9, "func f(x,": 9, "func f(x,)": 9, "func f(x,,": 9, "func f(x;": 8, "func f(x]": 8, "func f(x=1)": 8, "func f(x[": 8,
		"func f()": 8, "func f();": 8, "func f() (": 9, "func f() x": 9, "func f() return 1;": 9, "func f() { }}": 12, "func f() { };": 12, "func f() { } x": 13, "func f() { func g() { } }": 11, "func f() { int x; }": 11, "func f() { { } }": 11, "func f() { ; }": 11, "func f() { else { } }": 11,
	} {
		wantParseFault(t, s, wrongToken, at)
	}
}

// manyFunctions: so many of `func f(){}`, one behind the other.
func manyFunctions(count int) impl.Source {
	var bodies []tree
	for k := range count {
		bodies = append(bodies, tBlock().placedAt(10*k+8))
	}
	return laid(impl.Source{Fns: times(impl.Fn{Name: "f"}, count)}, bodies...)
}

// Globals, arrays and functions in any order: each list has the order of the text.
func TestParseOfMixedHeads(t *testing.T) {
	for _, order := range texts([]string{"g", "a", "f"}, 6) {
		var p impl.Source
		var bodies []tree
		s := ""
		for k, c := range order {
			name := string("pqrstu"[k])
			switch c {
			case 'g':
				s += "int " + name + ";"
				p.Globals = append(p.Globals, name)
			case 'a':
				s += "int " + name + "[" + string("012345"[k]) + "];"
				p.Arrays = append(p.Arrays, impl.Array{Name: name, Size: k})
			case 'f':
				p.Fns = append(p.Fns, impl.Fn{Name: name, Params: times("x", k)})
				s += "func " + name + "(" + strings.Join(times("x", k), ",") + ")"
				bodies = append(bodies, tBlock(tDo(tNum(k).placedAt(len(s)+1)).placedAt(len(s)+1)).placedAt(len(s)))
				s += "{" + string("012345"[k]) + ";}"
			}
		}
		wantParsed(t, s, parsed{p: laid(p, bodies...)})
	}
}

func TestParseOfNumbers(t *testing.T) {
	for s, want := range map[string]string{
		"0": "0", "00": "0", "000000": "0", "7": "7", "007": "7", "2147483647": "2147483647", "0002147483647": "2147483647", "00000000000000000000000000000001": "1", "-0": "(- 0)", "-2147483647": "(- 2147483647)", "1-1": "(- 1 1)", "1--1": "(- 1 (- 1))",
	} {
		wantExpression(t, s, want)
	}
	bodyFault(t, "return 2147483648;", greatNumber, 7)
	bodyFault(t, "return -2147483648;", greatNumber, 8)
	bodyFault(t, "return 1 2;", wrongToken, 9)
}

// namePlaces: each place where a name may stand, as %.
var namePlaces = []string{
	"int %;", "int %[1];", "func %() { }", "func f(%) { }", "func f(x, %) { }", "func f(%, x) { }",
	"{ var % = 1; }", "{ % = 1; }", "{ %[1] = 2; }", "{ %; }", "{ %[1]; }", "{ %(1); }", "{ %(); }", "{ % + 1; }", "{ 1 + %; }", "{ (%); }", "{ -%; }", "{ !~%; }",
	"{ x = %; }", "{ var x = %; }", "{ a[%] = 1; }", "{ a[1] = %; }", "{ a[%]; }", "{ f(%); }", "{ f(1, %); }", "{ f(%, 1); }", "{ return %; }", "{ return %[1]; }", "{ return %(1); }", "{ if (%) { } }", "{ while (%) { } }", "{ if (1) { %; } }", "{ if (1) { } else { %; } }", "{ while (1) { % = 1; } }",
}

func TestParseOfNamesAtEachPlace(t *testing.T) {
	for _, place := range namePlaces {
		if place[0] == '{' {
			place = "func main() " + place
		}
		at := strings.Index(place, "%")
		put := func(s string) string { return strings.Replace(place, "%", s, 1) }
		for _, s := range []string{"x", "abcdefghijk", "abcdefghijkl", "a23456789_AZ", "get", "put", "size", "main", "iff", "func1", "intx"} {
			if told := wantAsParsed(t, put(s)); told.code != 0 {
				t.Errorf("Parse(%q) has code %d at %d", put(s), told.code, told.at)
			}
		}
		for _, s := range []string{"abcdefghijklm", "a23456789_AZ_", "returnreturnreturn", "a" + strings.Repeat("x", 5000)} {
			wantParseFault(t, put(s), longName, at)
		}
		for _, s := range append(allSigns(), "1", "") {
			told := wantAsParsed(t, put(s))
			// Where a statement may begin some of these words may stand.
			if slices.Contains(wordSigns, s) && !strings.Contains(place, "{ %") && (told.code != wrongToken || told.at != at) {
				t.Errorf("Parse(%q) is %s", put(s), short(told))
			}
		}
	}
}

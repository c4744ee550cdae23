package tests

import (
	"math"
	"strings"
	"testing"

	"loop.example/g00472/impl"
)

func wantPrinted(t *testing.T, s, want string) {
	t.Helper()
	p, code, _ := impl.Parse(s)
	if got := impl.PrintSource(p); got != want || code != 0 {
		t.Errorf("PrintSource of %q is %q, not %q", s, got, want)
	}
}

func TestPrintSourceWrittenOut(t *testing.T) {
	for s, want := range map[string]string{
		"":                   "",
		"int g;":             "int g;\n",
		"int a[7];":          "int a[7];\n",
		"int a[0];":          "int a[0];\n",
		"int a[2147483647];": "int a[2147483647];\n",
		"func f(){}":         "func f() { }\n",
		"func f(x){}":        "func f(x) { }\n",
		"func f(x,y,z){}":    "func f(x, y, z) { }\n",
		"func f(){}int a[1];int g;func h(){}int b[2];int k;": "int g;\nint k;\nint a[1];\nint b[2];\nfunc f() { }\nfunc h() { }\n",
	} {
		wantPrinted(t, s, want)
	}
	for s, want := range map[string]string{
		"var x=1;":               "var x = 1;",
		"x=1;":                   "x = 1;",
		"a[1]=2;":                "a[1] = 2;",
		"a[1+2]=3+4;":            "a[(1 + 2)] = (3 + 4);",
		"if(1){}":                "if (1) { }",
		"if(1){}else{}":          "if (1) { } else { }",
		"if(x){y;}else{z;w;}":    "if (x) { y; } else { z; w; }",
		"while(1){}":             "while (1) { }",
		"while(x){y;z;}":         "while (x) { y; z; }",
		"return 1;":              "return 1;",
		"return(((1)));":         "return 1;",
		"1;":                     "1;",
		"x;":                     "x;",
		"a[x];":                  "a[x];",
		"f();":                   "f();",
		"f(1);":                  "f(1);",
		"f(1,x,g(2));":           "f(1, x, g(2));",
		"-1;":                    "(-1);",
		"!x;":                    "(!x);",
		"~-!x;":                  "(~(-(!x)));",
		"- -1;":                  "(-(-1));",
		"-(1+2);":                "(-(1 + 2));",
		"1+2*3;":                 "(1 + (2 * 3));",
		"1+2+3;":                 "((1 + 2) + 3);",
		"1+(2+3);":               "(1 + (2 + 3));",
		"x||y&&z;":               "(x || (y && z));",
		"a[-1]*f(2-3)<<4;":       "((a[(-1)] * f((2 - 3))) << 4);",
		"if(x==1){return-x;}":    "if ((x == 1)) { return (-x); }",
		"while(a[0]<9){if(1){}}": "while ((a[0] < 9)) { if (1) { } }",
		"007;":                   "7;",
	} {
		wantPrinted(t, "func main(){"+s+"}", "func main() { "+want+" }\n")
		wantPrinted(t, "func main(){x;"+s+s+"}", "func main() { x; "+want+" "+want+" }\n")
	}
	for _, s := range betweenSigns() {
		wantPrinted(t, "func main(){1"+s+"2;}", "func main() { (1 "+s+" 2); }\n")
	}
}

// Programs that differ in At alone are the same; the text's manner changes nothing else.
func TestSameSourceOfOtherPlaces(t *testing.T) {
	next := spread()
	manyPrograms(300, func(p impl.Source, bodies []tree) {
		p = laid(p, bodies...)
		if !hasText(p) {
			return
		}
		q := copiedSource(p)
		for k := range q.Nodes {
			q.Nodes[k].At = pick(next, []int{0, 1, k, 5999, math.MaxInt})
		}
		if !impl.SameSource(p, q) || !impl.SameSource(q, p) || impl.PrintSource(p) != impl.PrintSource(q) {
			t.Errorf("%s and the same with other places aren't the same", short(p))
		}
	})
	for _, s := range rightTexts() {
		p, _, _ := impl.Parse(s)
		for _, gap := range []string{"\n", "\t \r", "/**/", " /* a ; } */ "} {
			q, _, _ := impl.Parse(strings.ReplaceAll(s, " ", gap))
			if !impl.SameSource(p, q) || !sameProgram(unplacedSource(p), unplacedSource(q)) {
				t.Errorf("%q isn't the same with %q between its tokens", s, gap)
			}
		}
		q, _, _ := impl.Parse(strings.NewReplacer(" ", "", "int ", "int ", "func ", "func ", "var ", "var ", "return ", "return ", "- -", "- -").Replace(s))
		if !impl.SameSource(p, q) {
			t.Errorf("%q isn't the same without blanks", s)
		}
	}
}

// different: right texts, no two of one program.
func different() []string {
	l := []string{"", "int g;", "int h;", "int g;int g;", "int g;int h;", "int h;int g;", "int g[0];", "int g[1];", "int h[1];", "int g[1];int h[1];", "int h[1];int g[1];", "func g(){}", "func h(){}", "func g(x){}", "func g(y){}", "func g(x,y){}", "func g(y,x){}", "func g(){}func h(){}", "func h(){}func g(){}", "func g(){}int g;"}
	for _, s := range []string{
		"x;", "y;", "1;", "2;", "0;", "-x;", "!x;", "~x;", "--x;", "a[x];", "b[x];", "a[y];", "f();", "g();", "f(x);", "f(x,x);", "f(x,y);", "f(y,x);", "f(f(x),y);", "f(f(x,y));", "f(x);y;", "f(x);x;", "x;f(x);", "x+y;", "y+x;", "x-y;", "x+y+z;", "x+(y+z);", "(x+y)*z;", "x+y*z;", "-x+y;", "-(x+y);", "x=1;", "y=1;", "x=2;", "x==1;", "var x=1;", "var y=1;", "return 1;", "return x;", "a[1]=2;", "a[2]=1;", "b[1]=2;", "a[1]==2;", "if(1){}", "if(2){}", "if(1){x;}", "if(1){}x;", "if(1){}else{}", "if(1){}else{x;}", "if(1){x;}else{}", "while(1){}", "while(1){x;}", "while(1){}x;", "while(2){}", "if(1){if(2){}}", "if(1){if(2){}else{}}", "if(1){if(2){}}else{}",
	} {
		l = append(l, "func main(){"+s+"}")
	}
	for _, s := range betweenSigns() {
		if s != "+" && s != "-" && s != "==" {
			l = append(l, "func main(){x"+s+"y;}")
		}
	}
	return l
}

func TestSameSourceOfOthers(t *testing.T) {
	wrong := []impl.Source{{Globals: []string{"if"}}, {Nodes: []impl.Node{{}}}, {Fns: []impl.Fn{{Name: "f"}}}, mainOf(tDo(tNum(-1))), mainOf(tNum(1)), mainOf(tDo(tName("abcdefghijklm")))}
	all := different()
	for k, s := range all {
		p, code, _ := impl.Parse(s)
		if code != 0 {
			t.Fatalf("Parse(%q) has code %d", s, code)
		}
		for j, r := range all {
			q, _, _ := impl.Parse(r)
			if impl.SameSource(p, q) != (k == j) {
				t.Errorf("%q and %q are the same: %v", s, r, k != j)
			}
		}
		for _, w := range wrong {
			if impl.SameSource(p, w) || impl.SameSource(w, p) {
				t.Errorf("%q and %s are the same", s, short(w))
			}
		}
	}
	for _, w := range wrong {
		for _, v := range wrong {
			if impl.SameSource(w, v) {
				t.Errorf("%s and %s are the same", short(w), short(v))
			}
		}
	}
}

// Programs that differ in one node are the same only where they differ in At alone.
func TestSameSourceOfOneChange(t *testing.T) {
	p := allKinds()
	for k := range p.Nodes {
		for what, change := range map[string]func(n *impl.Node){
			"N": func(n *impl.Node) { n.N++ },
			"S": func(n *impl.Node) { n.S += "x" },
			"another S": func(n *impl.Node) {
				if boundLevel(n.S) >= 0 && n.Kind == impl.NBinary {
					n.S = "^"
				}
				if n.Kind == impl.NUnary {
					n.S = map[string]string{"-": "~", "!": "-", "~": "!"}[n.S]
				}
			},
			"Kind": func(n *impl.Node) { n.Kind = n.Kind%14 + 1 },
		} {
			q := changed(p, k, change)
			if want := sameProgram(p, q); impl.SameSource(p, q) != want || impl.SameSource(q, p) != want {
				t.Errorf("node %d with another %s: the same is %v", k, what, !want)
			}
		}
		if q := changed(p, k, func(n *impl.Node) { n.At++ }); !impl.SameSource(p, q) || !impl.SameSource(q, p) {
			t.Errorf("node %d with another At isn't the same", k)
		}
	}
}

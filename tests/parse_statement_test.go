package tests

import (
	"testing"

	"loop.example/g00472/impl"
)

func TestStatementsWrittenOut(t *testing.T) {
	for s, want := range map[string]string{
		"":                                  "(block)",
		"var x = 1;":                        "(block (var x 1))",
		"x = 1;":                            "(block (set x 1))",
		"a[1] = 2;":                         "(block (put a 1 2))",
		"a[b[1]] = c[2];":                   "(block (put a (at b 1) (at c 2)))",
		"a[1 + 2] = 3 + 4;":                 "(block (put a (+ 1 2) (+ 3 4)))",
		"a[(1)] = (2);":                     "(block (put a 1 2))",
		"x;":                                "(block (do x))",
		"1;":                                "(block (do 1))",
		"a[1];":                             "(block (do (at a 1)))",
		"(a[1]);":                           "(block (do (at a 1)))",
		"f();":                              "(block (do (call f)))",
		"f(1);":                             "(block (do (call f 1)))",
		"-x;":                               "(block (do (- x)))",
		"(x);":                              "(block (do x))",
		"x + 1;":                            "(block (do (+ x 1)))",
		"x == 1;":                           "(block (do (== x 1)))",
		"a[1] == 2;":                        "(block (do (== (at a 1) 2)))",
		"a[1] + 2;":                         "(block (do (+ (at a 1) 2)))",
		"a[1] || b[2];":                     "(block (do (|| (at a 1) (at b 2))))",
		"f(1) == 2;":                        "(block (do (== (call f 1) 2)))",
		"x <= 1;":                           "(block (do (<= x 1)))",
		"x != 1;":                           "(block (do (!= x 1)))",
		"return 1;":                         "(block (return 1))",
		"return(1);":                        "(block (return 1))",
		"return -1;":                        "(block (return (- 1)))",
		"if (1) { }":                        "(block (if 1 (block)))",
		"if (1) { } else { }":               "(block (if 1 (block) (block)))",
		"if(x==1){y;}else{z;}":              "(block (if (== x 1) (block (do y)) (block (do z))))",
		"if ((1)) { }":                      "(block (if 1 (block)))",
		"while (1) { }":                     "(block (while 1 (block)))",
		"while(x<9){x=x+1;}":                "(block (while (< x 9) (block (set x (+ x 1)))))",
		"var x = 1; x = 2; x;":              "(block (var x 1) (set x 2) (do x))",
		"if (1) { } if (2) { }":             "(block (if 1 (block)) (if 2 (block)))",
		"if (1) { } x;":                     "(block (if 1 (block)) (do x))",
		"if (1) { if (2) { } } else { x; }": "(block (if 1 (block (if 2 (block))) (block (do x))))",
		"if (1) { if (2) { } else { x; } }": "(block (if 1 (block (if 2 (block) (block (do x))))))",
		"if (1) { if (2) { } else { x; } } else { y; }":              "(block (if 1 (block (if 2 (block) (block (do x)))) (block (do y))))",
		"if (1) { } else { if (2) { } else { } }":                    "(block (if 1 (block) (block (if 2 (block) (block)))))",
		"while (1) { if (2) { return 3; } while (4) { f(); } x; }":   "(block (while 1 (block (if 2 (block (return 3))) (while 4 (block (do (call f)))) (do x))))",
		"var iff = 1; whiles = iff; returns(ints[vars], elsewhere);": "(block (var iff 1) (set whiles iff) (do (call returns (at ints vars) elsewhere)))",
	} {
		wantMainSpelt(t, "func main() { "+s+" }", want)
	}
}

// The tokens with which no statement goes on, each at its place.
func TestStatementsThatDoNotGo(t *testing.T) {
	for s, at := range map[string]int{
		"x = y = 1;": 6, "1 = 2;": 2, "(x) = 1;": 4, "(a[1]) = 2;": 7, "a[1][2];": 4, "a[1] = 2 = 3;": 9, "a[1] + 2 = 3;": 9, "x + a[1] = 2;": 9, "-a[1] = 2;": 6, "-x = 1;": 3, "f(1) = 2;": 5, "f() = 2;": 4, "a[1] b;": 5, "a[1] == 2 = 3;": 10, "x + 1 = 2;": 6, "a[1]() = 2;": 4, "f()();": 3, "f()[1];": 3, "(f)(1);": 3, "(a)[1];": 3, "1[2];": 1, "1(2);": 1, "x y;": 2, "x 1;": 2, "1 x;": 2, "x(1) y;": 5,
		";": 0, "x;;": 2, "x": 2, "x,": 1, "x, y;": 1, "{ }": 0, "{ x; }": 0, "else { }": 0, "int x;": 0, "func f() { }": 0,
		"var": 4, "var x": 6, "var x;": 5, "var x, y = 1;": 5, "var x == 1;": 6, "var 1 = 1;": 4, "var x[1] = 2;": 5, "var x = ;": 8, "var x = 1": 10, "var x = 1, y = 2;": 9, "var var = 1;": 4, "var x = var;": 8,
		"x =": 4, "x = ;": 4, "x = 1": 6, "x == ;": 5, "= 1;": 0, "a[": 3, "a[] = 1;": 2, "a[1 = 2;": 4, "a[1] =": 7, "a[1] = ;": 7, "a[1, 2] = 3;": 3, "a[1;": 3, "a[1);": 3, "a{1} = 2;": 1,
		"if": 3, "if 1 { }": 3, "if () { }": 4, "if (1)": 7, "if (1) x;": 7, "if (1) { } else": 16, "if (1) { } else x;": 16, "if (1) { } else if (2) { }": 16, "if (1) { } else { } else { }": 20, "if (1 { }": 6, "if (1;": 5, "if (x = 1) { }": 6, "if (1, 2) { }": 5, "if (1) { };": 10, "if (1) { } else { };": 19, "if (1) else { }": 7, "if { }": 3,
		"while": 6, "while 1 { }": 6, "while () { }": 7, "while (1)": 10, "while (1);": 9, "while (1) x;": 10, "while (1) { } else { }": 14, "while (x = 1) { }": 9,
		"return": 7, "return;": 6, "return 1": 9, "return 1, 2;": 8, "return return 1;": 7, "return { };": 7, "return ();": 8, "return (1;": 9, "return 1);": 8, "return (1));": 10, "return x = 1;": 9,
		"f(": 3, "f(;": 2, "f(,);": 2, "f(1": 4, "f(1;": 3, "f(1,": 5, "f(1,);": 4, "f(,1);": 2, "f(1 2);": 4, "f(1,,2);": 4, "f(x = 1);": 4, "f(1];": 3, "f(var);": 2, "f(if);": 2,
	} {
		bodyFault(t, s, wrongToken, at)
	}
}

// Each kind of node with its place, written out: the token at which it begins, of a binary its sign.
func TestPlacesOfNodes(t *testing.T) {
	at := func(at int, t tree) tree { return t.placedAt(at) }
	s := "func f(x) { var y = a[1] ; y = - x ; a[ 2 ] = f( y ) ; if ( !x ) { x ; } else { } while ( 0 ) { } return ( x + 3 ) * ( 4 ) ; ( 5 ) ; ( 6 ) - 7 ; a[8] ; g() ; }"
	want := at(10, tBlock(
		at(12, tVar("y", at(20, tAt("a", at(22, tNum(1)))))),
		at(27, tSet("y", at(31, tUnary("-", at(33, tName("x")))))),
		at(37, tPut("a", at(40, tNum(2)), at(46, tCall("f", at(49, tName("y")))))),
		at(55, tIf(at(60, tUnary("!", at(61, tName("x")))), at(65, tBlock(at(67, tDo(at(67, tName("x")))))), at(78, tBlock()))),
		at(82, tWhile(at(90, tNum(0)), at(94, tBlock()))),
		at(98, tReturn(at(115, tBinary("*", at(109, tBinary("+", at(107, tName("x")), at(111, tNum(3)))), at(119, tNum(4)))))),
		at(125, tDo(at(127, tNum(5)))),
		at(133, tDo(at(139, tBinary("-", at(135, tNum(6)), at(141, tNum(7)))))),
		at(145, tDo(at(145, tAt("a", at(147, tNum(8)))))),
		at(152, tDo(at(152, tCall("g")))),
	))
	wantParsed(t, s, parsed{p: laid(impl.Source{Fns: []impl.Fn{{Name: "f", Params: []string{"x"}}}}, want)})
}

// The order of nodes, written out as nodes: each first kid right behind its node, each next one behind all
// that lies in the one ahead, the Body of each function behind all of the one ahead.
func TestOrderOfNodes(t *testing.T) {
	wantParsed(t, "func f(){x=1+g(2,3);}func g(p,q){}func h(){if(a[4]){-5;}else{}}", parsed{p: impl.Source{
		Fns: []impl.Fn{{Name: "f", Body: 0}, {Name: "g", Params: []string{"p", "q"}, Body: 7}, {Name: "h", Body: 8}},
		Nodes: []impl.Node{
			{Kind: 14, At: 8, Kids: []int{1}},
			{Kind: 7, At: 9, S: "x", Kids: []int{2}},
			{Kind: 6, At: 12, S: "+", Kids: []int{3, 4}},
			{Kind: 1, At: 11, N: 1},
			{Kind: 4, At: 13, S: "g", Kids: []int{5, 6}},
			{Kind: 1, At: 15, N: 2},
			{Kind: 1, At: 17, N: 3},
			{Kind: 14, At: 32},
			{Kind: 14, At: 42, Kids: []int{9}},
			{Kind: 9, At: 43, Kids: []int{10, 12, 16}},
			{Kind: 3, At: 46, S: "a", Kids: []int{11}},
			{Kind: 1, At: 48, N: 4},
			{Kind: 14, At: 51, Kids: []int{13}},
			{Kind: 12, At: 52, Kids: []int{14}},
			{Kind: 5, At: 52, S: "-", Kids: []int{15}},
			{Kind: 1, At: 53, N: 5},
			{Kind: 14, At: 60},
		},
	}})
	wantParsed(t, "func f(){a[1]=2;while(3){}return(4);var v=5;}", parsed{p: impl.Source{
		Fns: []impl.Fn{{Name: "f"}},
		Nodes: []impl.Node{
			{Kind: 14, At: 8, Kids: []int{1, 4, 7, 9}},
			{Kind: 8, At: 9, S: "a", Kids: []int{2, 3}},
			{Kind: 1, At: 11, N: 1},
			{Kind: 1, At: 14, N: 2},
			{Kind: 10, At: 16, Kids: []int{5, 6}},
			{Kind: 1, At: 22, N: 3},
			{Kind: 14, At: 24},
			{Kind: 11, At: 26, Kids: []int{8}},
			{Kind: 1, At: 33, N: 4},
			{Kind: 13, At: 36, S: "v", Kids: []int{10}},
			{Kind: 1, At: 42, N: 5},
		},
	}})
}

package tests

import (
	"slices"
	"strings"
	"testing"

	"loop.example/g00472/impl"
)

// rightTexts: each statement, each operand and each part of a program, with a blank between all tokens.
func rightTexts() []string {
	l := []string{"int g ;", "int a [ 10 ] ;", "func f ( ) { }", "func f ( x ) { }", "func f ( x , y , z ) { }"}
	for _, s := range []string{
		"var x = 1 ;", "x = 1 ;", "a [ 1 ] = 2 ;", "if ( 1 ) { }", "if ( 1 ) { } else { }", "while ( 1 ) { }", "return 1 ;", "1 ;", "x ;", "a [ 1 ] ;", "f ( ) ;", "f ( 1 ) ;", "f ( 1 , x , 2 ) ;", "- 1 ;", "! x ;", "~ a [ 1 ] ;", "( 1 ) ;", "( x ) ;", "( a [ 1 ] ) ;", "x + 1 ;", "x < 1 && y ;", "- ( x - - 1 ) ;", "a [ x [ 1 ] ] = f ( b [ 2 ] ) ;", "if ( x ) { y = 1 ; } else { if ( z ) { return 2 ; } }", "while ( x ) { if ( y ) { } x = x - 1 ; }",
	} {
		l = append(l, "func f ( ) { "+s+" }")
	}
	return append(l, "int g ; int a [ 1 ] ; func main ( ) { var x = g ; return a [ x ] ; } func f ( p ) { p = p ; }")
}

// otherWords: what is put in the place of a token: each sign, names of 12 and 13 bytes, numbers.
func otherWords() []string {
	return append(allSigns(), "x", "get", "abcdefghijkl", "abcdefghijklm", "0", "2147483647")
}

func joinedWords(parts ...[]string) string { return strings.Join(slices.Concat(parts...), " ") }

func TestRightTexts(t *testing.T) {
	for _, s := range rightTexts() {
		if told := wantAsParsed(t, s); told.code != 0 {
			t.Errorf("Parse(%q) is %s", s, short(told))
		}
	}
}

func TestEachTokenLeftOut(t *testing.T) {
	for _, s := range rightTexts() {
		words := strings.Fields(s)
		for k := range words {
			wantAsParsed(t, joinedWords(words[:k], words[k+1:]))
			for j := k + 1; j < len(words); j++ {
				wantAsParsed(t, joinedWords(words[:k], words[k+1:j], words[j+1:]))
			}
		}
	}
}

func TestEachTokenDoubled(t *testing.T) {
	for _, s := range rightTexts() {
		words := strings.Fields(s)
		for k := range words {
			wantAsParsed(t, joinedWords(words[:k+1], words[k:]))
			wantAsParsed(t, joinedWords(words[:k+1], words[k:k+1], words[k:]))
		}
	}
}

func TestEachTokenInThePlaceOfEach(t *testing.T) {
	for _, s := range rightTexts() {
		words := strings.Fields(s)
		for k := range words {
			for _, other := range otherWords() {
				wantAsParsed(t, joinedWords(words[:k], []string{other}, words[k+1:]))
				wantAsParsed(t, joinedWords(words[:k], []string{other}, words[k:]))
			}
			for j := range k {
				swapped := slices.Clone(words)
				swapped[j], swapped[k] = swapped[k], swapped[j]
				wantAsParsed(t, joinedWords(swapped))
			}
		}
	}
}

// A text that is cut off within a function or an int ends too early: the place is its length.
func TestCutOffBehindEachToken(t *testing.T) {
	for _, s := range rightTexts() {
		words := strings.Fields(s)
		for k := range words {
			open := strings.Count(joinedWords(words[:k]), "{") - strings.Count(joinedWords(words[:k]), "}")
			whole := k == 0 || open == 0 && (words[k-1] == "}" || words[k-1] == ";") && words[k] != "else"
			for _, gap := range []string{"", " ", "\n\n", "/* */", " /* more */ "} {
				cut := joinedWords(words[:k]) + gap
				if !whole {
					wantParseFault(t, cut, wrongToken, len(cut))
				} else if told := wantAsParsed(t, cut); told.code != 0 {
					t.Errorf("Parse(%q) is %s", cut, short(told))
				}
			}
		}
	}
}

// placedFault: a statement that has the one fault, at that place.
type placedFault struct {
	s    string
	code int
	at   int
}

func statementFaults() []placedFault {
	return []placedFault{
		{"1 = 2;", wrongToken, 2},
		{"return;", wrongToken, 6},
		{"x y;", wrongToken, 2},
		{"if x { }", wrongToken, 3},
		{"a[1;", wrongToken, 3},
		{"abcdefghijklm;", longName, 0},
		{"x = abcdefghijklm;", longName, 4},
		{"var abcdefghijklm = 1;", longName, 4},
		{"f(1, abcdefghijklm);", longName, 5},
		{strings.Repeat("-", 58) + "1;", tooDeep, 57},
		{"x = " + strings.Repeat("(", 30) + "1" + strings.Repeat(")", 30) + ";", tooDeep, 4 + 29},
	}
}

// Of faults in several places the one that is met first from the left is told.
func TestTheFirstFaultIsTold(t *testing.T) {
	for _, f := range statementFaults() {
		bodyFault(t, f.s, f.code, f.at)
		for _, g := range statementFaults() {
			bodyFault(t, f.s+" "+g.s, f.code, f.at)
			bodyFault(t, "x = 1; "+f.s+" "+g.s+" "+f.s, f.code, f.at+7)
		}
		wantParseFault(t, "int abcdefghijklm; func main() { "+f.s+" }", longName, 4)
		wantParseFault(t, "int 1; func main() { "+f.s+" }", wrongToken, 4)
		wantParseFault(t, "func main() { "+f.s, f.code, 14+f.at)
		wantParseFault(t, "func main() { "+f.s+" } x", f.code, 14+f.at)
		wantParseFault(t, "func main() { "+f.s+" } #", noTokenByte, 14+len(f.s)+3)
	}
}

// Of faults of one token the one with the least code is told: a token that may not stand there isn't a name that
// is too long, and begins nothing that would lie too deep; nor does the end of the text.
func TestFaultsOfOneToken(t *testing.T) {
	for s, at := range map[string]int{
		"abcdefghijklm": 0, "abcdefghijklm;": 0, "int a[abcdefghijklm];": 6, "int g abcdefghijklm;": 6, "func f abcdefghijklm": 7, "func f() abcdefghijklm": 9, "func f(x abcdefghijklm)": 9, "func f() { 1 abcdefghijklm; }": 13, "func f() { x abcdefghijklm; }": 13, "func f() { if abcdefghijklm }": 14, "func f() { if (1) abcdefghijklm; }": 18, "func f() { } abcdefghijklm": 13, "func f() { f(1 abcdefghijklm) }": 15,
	} {
		wantParseFault(t, s, wrongToken, at)
	}
	most := "func main() { return " + strings.Repeat("-", 57)
	for _, s := range []string{"1", "x", "x[1]", "x(1)", "(1)", "-1", "!1", "~1"} {
		wantParseFault(t, most+s+"; }", tooDeep, len(most))
		wantParseFault(t, most+s, tooDeep, len(most))
	}
	wantParseFault(t, most+"abcdefghijklm; }", longName, len(most))
	for _, s := range []string{")", "]", "}", ";", ",", "=", "+", "if", "var", "else", "{", "["} {
		wantParseFault(t, most+s+" x", wrongToken, len(most))
	}
	wantParseFault(t, most, wrongToken, len(most))
	wantParseFault(t, most+"  ", wrongToken, len(most)+2)
	parens := "func main() { return " + strings.Repeat("(", 29)
	wantParseFault(t, parens+"1", tooDeep, len(parens))
	wantParseFault(t, parens+"abcdefghijklm", longName, len(parens))
	wantParseFault(t, parens+")", wrongToken, len(parens))
	wantParseFault(t, parens, wrongToken, len(parens))
}

// Too many nodes are told only of what has no other fault.
func TestManyNodesComeLast(t *testing.T) {
	many := strings.Repeat("x;", 500)
	wantParseFault(t, "func main() { "+many+" }", manyNodes, 0)
	for _, f := range statementFaults() {
		bodyFault(t, many+f.s, f.code, len(many)+f.at)
		bodyFault(t, f.s+many, f.code, f.at)
	}
	wantParseFault(t, "func main() { "+many, wrongToken, 14+len(many))
	wantParseFault(t, "func main() { "+many+"#", noTokenByte, 14+len(many))
	wantParseFault(t, "func main() { "+many+" } int abcdefghijklm;", longName, 14+len(many)+7)
	wantParseFault(t, "func main() { "+many+" }"+strings.Repeat(" ", 6000), tooLongText, 0)
}

// Any tokens: what is told is what the tests' own reader tells.
func TestParseOfAnyTokens(t *testing.T) {
	next := spread()
	codes := map[int]int{}
	words := slices.Concat(allSigns(), []string{"x", "f", "a", "1", "0", "(", ")", ";", "abcdefghijklm"})
	for range 20000 {
		l := strings.Fields(pick(next, rightTexts()))
		for range next(4) {
			k := next(len(l) + 1)
			l = slices.Insert(l, k, pick(next, words))
			if k = next(len(l)); next(2) == 0 {
				l = slices.Delete(l, k, k+1)
			}
		}
		codes[wantAsParsed(t, strings.Join(l, " ")).code]++
	}
	if codes[0] < 2000 || codes[wrongToken] < 2000 || codes[longName] < 50 {
		t.Errorf("the codes came as often as %v", codes)
	}
	if impl.MaxNodes != 800 || impl.MaxDepth != 60 {
		t.Errorf("MaxNodes is %d, MaxDepth %d", impl.MaxNodes, impl.MaxDepth)
	}
}

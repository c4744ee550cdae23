package tests

import (
	"strings"
	"testing"

	"loop.example/g00472/impl"
)

func TestLexOfAProgram(t *testing.T) {
	wantToks(t, "int a[10];\nfunc f(x) { /* why */ return a[x]>=2; }",
		sign(0, "int"), name(4, "a"), sign(5, "["), num(6, 10), sign(8, "]"), sign(9, ";"),
		sign(11, "func"), name(16, "f"), sign(17, "("), name(18, "x"), sign(19, ")"), sign(21, "{"),
		sign(33, "return"), name(40, "a"), sign(41, "["), name(42, "x"), sign(43, "]"), sign(44, ">="), num(46, 2), sign(47, ";"), sign(49, "}"))
	wantToks(t, "while(i<9&&!done){i=i+1;put(-i%256);}",
		sign(0, "while"), sign(5, "("), name(6, "i"), sign(7, "<"), num(8, 9), sign(9, "&&"), sign(11, "!"), name(12, "done"), sign(16, ")"),
		sign(17, "{"), name(18, "i"), sign(19, "="), name(20, "i"), sign(21, "+"), num(22, 1), sign(23, ";"),
		name(24, "put"), sign(27, "("), sign(28, "-"), name(29, "i"), sign(30, "%"), num(31, 256), sign(34, ")"), sign(35, ";"), sign(36, "}"))
	wantToks(t, "if a<=b||c!=d else var~x^y",
		sign(0, "if"), name(3, "a"), sign(4, "<="), name(6, "b"), sign(7, "||"), name(9, "c"), sign(10, "!="), name(12, "d"),
		sign(14, "else"), sign(19, "var"), sign(22, "~"), name(23, "x"), sign(24, "^"), name(25, "y"))
}

func TestLexOfTheEmptyTextAndOfGapsAlone(t *testing.T) {
	wantToks(t, "")
	for _, s := range texts([]string{" ", "\t", "\n", "\r", "/**/", "/* a # 99999999999 */"}, 3) {
		wantToks(t, s)
	}
}

// textOf: a text of size bytes, from the parts one behind the other, of the last one as much as there is room.
func textOf(size int, parts string) string { return strings.Repeat(parts, size/len(parts)+1)[:size] }

func TestLexOfMaxTextBytes(t *testing.T) {
	if impl.MaxText != 6000 {
		t.Fatalf("MaxText is %d", impl.MaxText)
	}
	for _, parts := range []string{" ", "\n", "(", "a", "0", "<", "a ", "int ", "x9;", "=!"} {
		for _, size := range []int{5999, 6000} {
			wantAsLexed(t, textOf(size, parts))
			if got := lexOf(textOf(size, parts)); got.code != 0 {
				t.Errorf("%d bytes of %q have code %d", size, parts, got.code)
			}
		}
		for _, size := range []int{6001, 6002, 12000, 1 << 20} {
			wantLexFault(t, textOf(size, parts), tooLongText, 0)
		}
	}
	wantToks(t, strings.Repeat(" ", 5999)+"a", name(5999, "a"))
	wantToks(t, strings.Repeat(" ", 5998)+"==", sign(5998, "=="))
	wantToks(t, strings.Repeat("a", 6000), name(0, strings.Repeat("a", 6000)))
	wantToks(t, "/*"+strings.Repeat("*", 5996)+"*/")
	wantToks(t, strings.Repeat("/**/", 1500))
}

// What counts is bytes, not characters.
func TestLexCountsBytes(t *testing.T) {
	wantToks(t, "/*"+strings.Repeat("é", 2998)+"*/")
	wantLexFault(t, "/*"+strings.Repeat("é", 2998)+"*/ ", tooLongText, 0)
	wantLexFault(t, "/*"+strings.Repeat("\U0001d11e", 1500)+"*/", tooLongText, 0)
}

// A text that is too long has no other code, whatever stands in it.
func TestATooLongTextIsNotRead(t *testing.T) {
	for _, s := range []string{"#", "2147483648", "/*", "A", "\xff"} {
		wantLexFault(t, s+strings.Repeat(" ", 6001-len(s)), tooLongText, 0)
		wantLexFault(t, strings.Repeat(" ", 6001-len(s))+s, tooLongText, 0)
	}
	wantLexFault(t, strings.Repeat(" ", 5999)+"#", noTokenByte, 5999)
	wantLexFault(t, strings.Repeat(" ", 5990)+"2147483648", greatNumber, 5990)
	wantLexFault(t, strings.Repeat(" ", 5998)+"/*", unendedWords, 5998)
	wantLexFault(t, "#"+strings.Repeat(" ", 5999), noTokenByte, 0)
}

// faulty: a text that has the one code, at that place.
type faulty struct {
	s    string
	code int
	at   int
}

func faulties() []faulty {
	return []faulty{
		{"#", noTokenByte, 0},
		{"A", noTokenByte, 0},
		{"_", noTokenByte, 0},
		{"a.", noTokenByte, 1},
		{"1A", noTokenByte, 1},
		{"(\x0b)", noTokenByte, 1},
		{"2147483648", greatNumber, 0},
		{"a=9999999999;", greatNumber, 2},
		{"-0002147483648x", greatNumber, 1},
		{"/*", unendedWords, 0},
		{"a/*b", unendedWords, 1},
		{"1/* *", unendedWords, 1},
	}
}

func TestLexTellsEachCodeWithItsPlace(t *testing.T) {
	for _, f := range faulties() {
		wantLexFault(t, f.s, f.code, f.at)
		for _, ahead := range []string{" ", "\n\n", "x ", "1 ", "int ", "<= ", "/* # */", "/**/"} {
			wantLexFault(t, ahead+f.s, f.code, len(ahead)+f.at)
		}
		for _, behind := range []string{" ", "\n", " x", " 1", " (", " /"} {
			wantLexFault(t, f.s+behind, f.code, f.at)
		}
	}
}

func TestLexTellsTheFaultThatIsMetFirst(t *testing.T) {
	for _, f := range faulties() {
		for _, g := range faulties() {
			wantLexFault(t, f.s+" "+g.s, f.code, f.at)
			wantLexFault(t, "ok "+f.s+" "+g.s+" "+f.s, f.code, f.at+3)
		}
	}
	wantLexFault(t, "/* # 2147483648", unendedWords, 0)
	wantLexFault(t, "/* # 2147483648 */ # 2147483648 /*", noTokenByte, 19)
	wantLexFault(t, "2147483648#", greatNumber, 0)
	wantLexFault(t, "2147483648/*", greatNumber, 0)
	wantLexFault(t, "#/*", noTokenByte, 0)
	wantLexFault(t, "#2147483648", noTokenByte, 0)
}

// Each byte alone, and next to what might take it up.
func TestLexOfEachByte(t *testing.T) {
	const begins = "abcdefghijklmnopqrstuvwxyz0123456789(){}[],;=<>+-*/%&|^!~"
	const within = "abcdefghijklmnopqrstuvwxyzABCDEFGHIJKLMNOPQRSTUVWXYZ0123456789_"
	for c := range 256 {
		s := string([]byte{byte(c)})
		wantAsLexed(t, s)
		gap := strings.Contains(" \t\n\r", s)
		got := lexOf(s)
		if right := gap || strings.Contains(begins, s); right != (got.code == 0) || !right && (got.code != noTokenByte || got.at != 0) || gap != (right && len(got.toks) == 0) {
			t.Errorf("Lex of byte %d is %v", c, got)
		}
		behind := lexOf("x" + s)
		if takes := strings.Contains(within, s); takes != (len(behind.toks) == 1 && behind.toks[0].S == "x"+s) {
			t.Errorf("Lex of a letter and byte %d is %v", c, behind)
		}
		for _, other := range []string{"a", "0", "if", "<", "/", "=", " ", "/*", "*/", "/**/"} {
			wantAsLexed(t, other+s)
			wantAsLexed(t, s+other)
			wantAsLexed(t, other+s+other)
		}
	}
}

func TestLexOfBytesThatPartNothing(t *testing.T) {
	for _, c := range []string{"\x00", "\x08", "\x0b", "\x0c", "\x0e", "\x1f", "\x7f", "\x80", "\x85", "\xa0", "\xff"} {
		wantLexFault(t, c, noTokenByte, 0)
		wantLexFault(t, "a"+c+"b", noTokenByte, 1)
		wantLexFault(t, "1 "+c, noTokenByte, 2)
		wantLexFault(t, "<"+c, noTokenByte, 1)
		wantToks(t, "a/*"+c+"*/b", name(0, "a"), name(6, "b"))
	}
	for _, c := range []string{"é", "\u0085", "\u00a0", "\u2028", "\ufeff", "\u0660", "\u00b2", "\U0001d11e", "\ufffd"} {
		wantLexFault(t, c, noTokenByte, 0)
		wantLexFault(t, "ab"+c, noTokenByte, 2)
		wantLexFault(t, "12"+c, noTokenByte, 2)
		wantToks(t, "/*"+c+"*/b", name(4+len(c), "b"))
	}
}

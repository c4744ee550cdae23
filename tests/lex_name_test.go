package tests

import (
	"math"
	"regexp"
	"slices"
	"strconv"
	"strings"
	"testing"

	"loop.example/g00472/impl"
)

var namePattern = regexp.MustCompile(`\A[a-z][a-zA-Z0-9_]*\z`)

// wantName: a name of any length, by the words of the chapter.
func wantName(s string) bool { return namePattern.MatchString(s) && !slices.Contains(wordSigns, s) }

// nearWords: texts that are a name, a sign, or nearly so.
func nearWords() []string {
	l := append(texts(strings.Split("aiZ0_9 -", ""), 4), "é", "aé", "a\xff", "\xff", "a\x00", "\x00", "a\n", "\na", "a.b", "a-b", "a;", "a b", "a/**/b", "/**/", "/*", "#", "12", "2147483648", "\u00e4", "a\u0660")
	for _, s := range slices.Concat(allSigns(), usualNames()) {
		l = append(l, s, s+" ", " "+s, s+s, s+"x", "x"+s, s+"0", s+"_", s+"\n", s+"\x00", s+"é", s+"=", "="+s, strings.ToUpper(s), s[1:], s[:len(s)-1])
	}
	return l
}

func TestNameOkByLength(t *testing.T) {
	for size, want := range map[int]bool{0: false, 1: true, 2: true, 11: true, 12: true, 13: false, 14: false, 40: false, 6001: false, 1 << 20: false} {
		for _, c := range []string{"a", "Z", "0", "_"} {
			s := strings.Repeat(c, size)
			if size > 0 {
				s = "x" + s[1:]
			}
			if got := impl.NameOk(s); got != want {
				t.Errorf("NameOk of %d bytes of %q is %v", size, c, got)
			}
		}
	}
}

func TestNameOkOfSignsAndOthers(t *testing.T) {
	for _, s := range []string{"x", "x_1", "aB", "get", "put", "size", "main", "iff", "integer", "xif", "returns", "elseif", "else1", "i", "whil", "abcdefghijkl", "i_f", "iF", "var_"} {
		if !impl.NameOk(s) {
			t.Errorf("NameOk(%q) is false", s)
		}
	}
	for _, s := range append(allSigns(), "", " ", "A", "Ab", "_", "_a", "1", "1a", "a b", " a", "a ", "a\n", "é", "aé", "a-", "a.b", "a#", "a\x00", "a\xff", "/**/a", "abcdefghijklm", "abcdefghijk é", "a(") {
		if impl.NameOk(s) {
			t.Errorf("NameOk(%q) is true", s)
		}
	}
	for _, s := range nearWords() {
		if got := impl.NameOk(s); got != (wantName(s) && len(s) <= 12) {
			t.Errorf("NameOk(%.40q) is %v", s, got)
		}
	}
}

// A name is what Lex reads as one token of the Kind of a name that is all of the text.
func TestNamesAreWhatLexReads(t *testing.T) {
	for _, s := range nearWords() {
		got := lexOf(s)
		one := got.code == 0 && len(got.toks) == 1 && got.toks[0] == name(0, s)
		if impl.NameOk(s) != (one && len(s) <= 12) {
			t.Errorf("NameOk(%.40q) is %v, and Lex tells %s", s, impl.NameOk(s), short(got))
		}
	}
}

// noKinds: Kinds that no token has.
var noKinds = []int{0, -1, -2, -3, 4, 5, 100, 1 << 32, 1<<32 + 1, 1<<32 + 2, 1<<32 + 3, math.MaxInt, math.MinInt}

func TestSignOfEachKind(t *testing.T) {
	for _, s := range append(allSigns(), "") {
		if got := impl.SignOf(impl.Tok{Kind: 3, S: s, N: 5, At: 9}); got != s {
			t.Errorf("SignOf of the sign %q is %q", s, got)
		}
		for _, kind := range append(noKinds, impl.TokNum, impl.TokName) {
			if got := impl.SignOf(impl.Tok{Kind: kind, S: s, N: 5, At: 9}); got != "" {
				t.Errorf("SignOf of %q with Kind %d is %q", s, kind, got)
			}
		}
	}
	// S is told as it is: that it is one of the signs is asked by TokText alone.
	if got := impl.SignOf(impl.Tok{Kind: 3, S: "x"}); got != "x" {
		t.Errorf("SignOf of a token with the Kind of a sign and S x is %q", got)
	}
	if impl.SignOf(impl.Tok{}) != "" {
		t.Error("SignOf of no token isn't empty")
	}
}

func TestKinds(t *testing.T) {
	if impl.TokNum != 1 || impl.TokName != 2 || impl.TokSign != 3 {
		t.Errorf("the Kinds are %d, %d, %d", impl.TokNum, impl.TokName, impl.TokSign)
	}
}

func wantTokText(t *testing.T, tok impl.Tok, want string) {
	t.Helper()
	if got := impl.TokText(tok); got != want {
		t.Errorf("TokText(%s) is %.80q, not %.80q", short(tok), got, want)
	}
}

func TestTokTextOfNumbers(t *testing.T) {
	for _, n := range samples() {
		for _, s := range []string{"", "x", "if", "5"} {
			wantTokText(t, impl.Tok{Kind: 1, N: n, S: s, At: 3}, strconv.Itoa(wantWrap(n)))
		}
	}
	wantTokText(t, impl.Tok{Kind: 1}, "0")
	wantTokText(t, impl.Tok{Kind: 1, N: -1}, "-1")
	wantTokText(t, impl.Tok{Kind: 1, N: impl.MinI}, "-2147483648")
	wantTokText(t, impl.Tok{Kind: 1, N: impl.MaxI}, "2147483647")
	wantTokText(t, impl.Tok{Kind: 1, N: impl.MaxI + 1}, "-2147483648")
	wantTokText(t, impl.Tok{Kind: 1, N: 1 << 32}, "0")
}

func TestTokTextOfNamesAndSigns(t *testing.T) {
	for _, s := range nearWords() {
		asName, asSign := "", ""
		if wantName(s) {
			asName = s
		}
		if slices.Contains(allSigns(), s) {
			asSign = s
		}
		for _, n := range []int{0, 5, -5} {
			wantTokText(t, impl.Tok{Kind: 2, S: s, N: n, At: n}, asName)
			wantTokText(t, impl.Tok{Kind: 3, S: s, N: n, At: n}, asSign)
		}
	}
}

func TestTokTextWrittenOut(t *testing.T) {
	long := strings.Repeat("aZ_9", 3000)
	for s, want := range map[string]string{"x": "x", "abcdefghijkl": "abcdefghijkl", "abcdefghijklm": "abcdefghijklm", long: long, "get": "get", "iff": "iff", "": "", "if": "", "return": "", "A": "", "_x": "", "1": "", "a b": "", " a": "", "a ": "", long + " ": "", long + "é": "", "(": ""} {
		wantTokText(t, name(0, s), want)
	}
	for s, want := range map[string]string{"if": "if", "return": "return", "(": "(", "<": "<", "<<": "<<", "!=": "!=", "": "", "x": "", "iff": "", "i": "", "<<<": "", "=!": "", "++": "", "( ": "", " (": "", "()": "", "1": "", "#": "", "/*": "", "*/": "", "/**/": "", " ": "", "\n": "", "IF": ""} {
		wantTokText(t, sign(0, s), want)
	}
}

func TestTokTextOfOtherKinds(t *testing.T) {
	for _, kind := range noKinds {
		for _, s := range []string{"", "x", "if", "("} {
			wantTokText(t, impl.Tok{Kind: kind, S: s, N: 5, At: 1}, "")
		}
	}
	wantTokText(t, impl.Tok{}, "")
}

func TestUnlexWrittenOut(t *testing.T) {
	empty, other := name(0, "if"), impl.Tok{Kind: 9, S: "x"}
	for _, c := range []struct {
		l    []impl.Tok
		want string
	}{
		{nil, ""},
		{[]impl.Tok{}, ""},
		{[]impl.Tok{name(5, "x")}, "x"},
		{[]impl.Tok{num(5, -7)}, "-7"},
		{[]impl.Tok{sign(0, "int"), name(9, "a"), sign(2, "["), num(1, 10), sign(0, "]"), sign(0, ";")}, "int a [ 10 ] ;"},
		{[]impl.Tok{sign(0, "<"), sign(1, "<"), sign(2, "=")}, "< < ="},
		{[]impl.Tok{sign(0, "/"), sign(1, "*")}, "/ *"},
		{[]impl.Tok{empty}, ""},
		{[]impl.Tok{other}, ""},
		{[]impl.Tok{empty, other}, " "},
		{[]impl.Tok{empty, other, empty}, "  "},
		{[]impl.Tok{name(0, "a"), empty, name(0, "b")}, "a  b"},
		{[]impl.Tok{empty, name(0, "a")}, " a"},
		{[]impl.Tok{name(0, "a"), other}, "a "},
	} {
		if got := impl.Unlex(c.l); got != c.want {
			t.Errorf("Unlex(%v) is %q, not %q", c.l, got, c.want)
		}
	}
}

func TestUnlexIsTokTextsWithABlankBetween(t *testing.T) {
	next := spread()
	kinds := append([]int{1, 2, 3, 1, 2, 3, 1, 2, 3}, noKinds...)
	words := nearWords()
	for size := range 200 {
		var l []impl.Tok
		var want []string
		for range size {
			tok := impl.Tok{Kind: kinds[next(len(kinds))], N: next(1 << 33), S: words[next(len(words))], At: next(9)}
			l = append(l, tok)
			want = append(want, impl.TokText(tok))
		}
		if got := impl.Unlex(l); got != strings.Join(want, " ") {
			t.Errorf("Unlex of %d tokens is %.200q", size, got)
		}
	}
}

package tests

import (
	"reflect"
	"slices"
	"strings"
	"testing"
	"unsafe"

	"loop.example/g00472/impl"
)

// lexTexts: texts that are right and such as have each code.
func lexTexts() []string {
	l := []string{"", " ", "func f_1(x) { /* a * b */ return x>>2 || 10; }", "a if 7 <= b", strings.Repeat("x ", 3000), strings.Repeat("(", 6001)}
	for _, f := range faulties() {
		l = append(l, f.s)
	}
	return l
}

// An answer of Lex hangs on the text alone.
func TestLexTellsTheSameEachTime(t *testing.T) {
	l := lexTexts()
	var told []lexed
	for k, s := range l {
		told = append(told, lexOf(s))
		if again := lexOf(strings.Clone(s)); !reflect.DeepEqual(told[k], again) {
			t.Errorf("Lex(%.40q) is first %s, then %s", s, short(told[k]), short(again))
		}
	}
	for k := len(l) - 1; k >= 0; k-- {
		if again := lexOf(l[k]); !reflect.DeepEqual(told[k], again) {
			t.Errorf("Lex(%.40q) is %s, and behind others %s", l[k], short(told[k]), short(again))
		}
	}
}

// What is written into an answer of Lex, or into the room behind it, is seen in no other.
func TestAnswersOfLexAreNew(t *testing.T) {
	for _, s := range lexTexts() {
		want := wantLex(s)
		firstList, _, _ := impl.Lex(s)
		again, _, _ := impl.Lex(s)
		fill(firstList, impl.Tok{Kind: 9, N: 9, S: "?", At: 9})
		third, _, _ := impl.Lex(s)
		if !slices.Equal(again, want.toks) || !slices.Equal(third, want.toks) {
			t.Errorf("what is written into an answer of Lex(%.40q) is seen in another", s)
		}
	}
}

// sharing: two texts lie, in part, in the same memory.
func sharing(a, b string) bool {
	if a == "" || b == "" {
		return false
	}
	fromA, fromB := uintptr(unsafe.Pointer(unsafe.StringData(a))), uintptr(unsafe.Pointer(unsafe.StringData(b)))
	return fromA < fromB+uintptr(len(b)) && fromB < fromA+uintptr(len(a))
}

func TestTextsOfAnswersAreNew(t *testing.T) {
	s := "func f_1(x) { return x>>2 || long_name_of_many_bytes; }"
	l, _, _ := impl.Lex(s)
	again, _, _ := impl.Lex(s)
	for k, tok := range l {
		if sharing(tok.S, s) || sharing(tok.S, again[k].S) {
			t.Errorf("S of %v lies in the memory of the text or of another answer", tok)
		}
		if sharing(impl.SignOf(tok), tok.S) || sharing(impl.TokText(tok), tok.S) || sharing(impl.Unlex(l[k:k+1]), tok.S) {
			t.Errorf("a text of %v lies in the memory of its S", tok)
		}
	}
}

// No list is changed, nor the room behind it, and nil is the empty list.
func TestUnlexLeavesItsList(t *testing.T) {
	next := spread()
	for size := range 60 {
		l := slices.Grow(toksOf(next, size), 40)
		all := l[:cap(l)]
		kept := slices.Clone(all)
		told := impl.Unlex(l)
		for _, tok := range l {
			impl.TokText(tok)
			impl.SignOf(tok)
		}
		if !slices.Equal(all, kept) {
			t.Errorf("a list of %d tokens was changed, or the room behind it", size)
		}
		if again := impl.Unlex(slices.Clone(l)); again != told {
			t.Errorf("Unlex of %d tokens is first %.80q, then %.80q", size, told, again)
		}
		fill(l, impl.Tok{Kind: 2, S: "other"})
		if size > 0 && told != impl.Unlex(kept[:size]) {
			t.Errorf("what is written into a list of %d tokens is seen in its text", size)
		}
	}
	if impl.Unlex(nil) != impl.Unlex([]impl.Tok{}) {
		t.Error("Unlex tells nil from the empty list")
	}
}

// Beside a code nothing is told, and beside no code no place.
func TestLexTellsNothingBesideACode(t *testing.T) {
	for _, s := range append(lexTexts(), "a b c d #", "1 2 3 2147483648", "x /*", "( ( ( A") {
		l, code, at := impl.Lex(s)
		if code != 0 && len(l) != 0 || code == 0 && at != 0 || code < 0 || code > 4 {
			t.Errorf("Lex(%.40q) is %d tokens, code %d and place %d", s, len(l), code, at)
		}
	}
}

// Long arguments are answered within a moment, and no call panics.
func TestLexAtLongArguments(t *testing.T) {
	const long = 1 << 21
	for _, c := range []string{"a", "1", "(", " ", "/", "*", "\xff", "_"} {
		s := strings.Repeat(c, long)
		if got := lexOf(s); got.code != tooLongText || got.at != 0 || got.toks != nil {
			t.Errorf("Lex of %d bytes %q is %s", long, c, short(got))
		}
		if impl.NameOk(s) {
			t.Errorf("NameOk of %d bytes %q is true", long, c)
		}
		want := ""
		if c == "a" {
			want = s
		}
		if impl.TokText(name(0, s)) != want || impl.TokText(sign(0, s)) != "" || impl.SignOf(sign(0, s)) != s {
			t.Errorf("a token of %d bytes %q isn't as it must be", long, c)
		}
	}
	if got := len(impl.Unlex(make([]impl.Tok, long))); got != long-1 {
		t.Errorf("Unlex of %d tokens without a text has %d bytes", long, got)
	}
	if got := len(impl.Unlex(slices.Repeat([]impl.Tok{name(0, strings.Repeat("a", 50))}, 10000))); got != 51*10000-1 {
		t.Errorf("Unlex of long names has %d bytes", got)
	}
}

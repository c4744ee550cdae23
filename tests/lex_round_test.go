package tests

import (
	"reflect"
	"slices"
	"strings"
	"testing"

	"loop.example/g00472/impl"
)

// everyTok: tokens as Lex tells them, with At 0: numbers, names short and long, each sign.
func everyTok() []impl.Tok {
	var l []impl.Tok
	for _, n := range []int{0, 1, 7, 10, 255, 1000000000, 2147483646, 2147483647} {
		l = append(l, num(0, n))
	}
	for _, s := range usualNames() {
		l = append(l, name(0, s))
	}
	for _, s := range allSigns() {
		l = append(l, sign(0, s))
	}
	return l
}

// wantReadAgain: what Unlex writes is read by Lex with the same Kind, N and S.
func wantReadAgain(t *testing.T, l []impl.Tok) {
	t.Helper()
	s := impl.Unlex(l)
	got := lexOf(s)
	if got.code != 0 || got.at != 0 || !slices.Equal(moved(got.toks), moved(l)) {
		t.Errorf("%s is written as %.80q, and read as %s", short(l), s, short(got))
	}
	if again := impl.Unlex(got.toks); again != s {
		t.Errorf("%.80q is read, and written as %.80q", s, again)
	}
}

func TestTokensAreReadAsTheyWereWritten(t *testing.T) {
	all := everyTok()
	wantReadAgain(t, nil)
	for _, a := range all {
		wantReadAgain(t, []impl.Tok{a})
		for _, b := range all {
			wantReadAgain(t, []impl.Tok{a, b})
		}
	}
	signs := allSigns()
	for _, a := range signs {
		for _, b := range signs {
			for _, c := range signs {
				wantReadAgain(t, []impl.Tok{sign(0, a), sign(0, b), sign(0, c)})
			}
		}
	}
}

// toksOf: so many tokens by the rule, whatever At.
func toksOf(next func(int) int, size int) []impl.Tok {
	all := everyTok()
	l := make([]impl.Tok, size)
	for k := range l {
		l[k] = all[next(len(all))]
		if next(3) == 0 {
			l[k] = num(0, next(2147483648))
		}
		l[k].At = next(9000)
	}
	return l
}

func TestLongListsAreReadAsTheyWereWritten(t *testing.T) {
	next := spread()
	longest := 0
	for round := range 3000 {
		l := toksOf(next, round%120)
		if len(impl.Unlex(l)) > impl.MaxText {
			continue
		}
		longest = max(longest, len(l))
		wantReadAgain(t, l)
	}
	if longest < 100 {
		t.Errorf("the longest list has %d tokens", longest)
	}
	wantReadAgain(t, slices.Repeat([]impl.Tok{sign(0, "<")}, 3000))
	wantReadAgain(t, slices.Repeat([]impl.Tok{name(0, "x")}, 3000))
	wantReadAgain(t, slices.Repeat([]impl.Tok{num(0, 2147483647)}, 545))
}

// gapsOf: one to four of what parts tokens, one behind the other.
func gapsOf(next func(int) int) string {
	parts := []string{" ", "\t", "\n", "\r", "  ", "\r\n", "/**/", "/* */", "/*/*/", "/***/", "/* a # 99999999999 if */", "/*\n\xff*/"}
	s := ""
	for range 1 + next(4) {
		s += parts[next(len(parts))]
	}
	return s
}

// What parts the tokens changes nothing but At, which is where each one was laid down.
func TestGapsChangePlacesAlone(t *testing.T) {
	next := spread()
	for range 2000 {
		l := toksOf(next, 1+next(25))
		var text strings.Builder
		for k := range l {
			if k > 0 || next(2) == 0 {
				text.WriteString(gapsOf(next))
			}
			l[k].At = text.Len()
			text.WriteString(impl.TokText(l[k]))
		}
		if next(2) == 0 {
			text.WriteString(gapsOf(next))
		}
		if text.Len() <= impl.MaxText {
			wantToks(t, text.String(), l...)
		}
	}
}

// Each gap parts each two tokens, also those that would be one without it.
func TestEachGapPartsEachTwo(t *testing.T) {
	all := everyTok()
	for _, gap := range []string{" ", "\t", "\n", "\r", "/**/", "/*/ */"} {
		for _, a := range all {
			for _, b := range all {
				s := impl.TokText(a) + gap + impl.TokText(b)
				if got := lexOf(s); got.code != 0 || !slices.Equal(moved(got.toks), []impl.Tok{a, b}) {
					t.Errorf("Lex(%.80q) is %s", s, short(got))
				}
			}
		}
	}
}

// Where nothing parts two tokens they are read as the tests' own reader reads them.
func TestTokensWithNothingBetween(t *testing.T) {
	all := everyTok()
	for _, a := range all {
		for _, b := range all {
			wantAsLexed(t, impl.TokText(a)+impl.TokText(b))
		}
	}
	next := spread()
	for range 2000 {
		var text strings.Builder
		for _, tok := range toksOf(next, next(30)) {
			text.WriteString(impl.TokText(tok))
			if next(3) == 0 {
				text.WriteString(gapsOf(next))
			}
		}
		wantAsLexed(t, text.String())
	}
}

// Any bytes: what is read is as the tests' own reader reads it, and, written, it is read again.
func TestLexOfAnyBytes(t *testing.T) {
	letters := strings.Split("abfinrtuvwelsh09_AZ(){}[],;=<>+-*/%&|^!~ \t\n\r#\x0b\x00", "")
	next := spread()
	right := 0
	for range 20000 {
		var text strings.Builder
		for range next(14) {
			text.WriteString(letters[next(len(letters))])
		}
		s := text.String()
		wantAsLexed(t, s)
		if got := lexOf(s); got.code == 0 {
			right++
			wantReadAgain(t, got.toks)
			if plain := lexOf(strings.Join(strings.Fields(impl.Unlex(got.toks)), "\n")); !reflect.DeepEqual(moved(plain.toks), moved(got.toks)) {
				t.Errorf("the tokens of %q aren't the same in lines of their own", s)
			}
		}
	}
	if right < 1000 {
		t.Errorf("only %d of the texts are right", right)
	}
}

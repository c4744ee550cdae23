package tests

import (
	"fmt"
	"math/big"
	"reflect"
	"regexp"
	"slices"
	"strings"
	"testing"

	"loop.example/g00472/impl"
)

// The signs of chapter 8, as it names them.
var (
	wordSigns   = strings.Fields("int var func if else while return")
	doubleSigns = strings.Fields("|| && == != <= >= << >>")
	singleSigns = strings.Fields("( ) { } [ ] , ; = < > + - * / % & | ^ ! ~")
)

func allSigns() []string { return slices.Concat(wordSigns, doubleSigns, singleSigns) }

// The codes of Lex, as the chapter numbers them.
const (
	tooLongText  = 1
	noTokenByte  = 2
	greatNumber  = 3
	unendedWords = 4
)

// lexed: what Lex tells.
type lexed struct {
	toks []impl.Tok
	code int
	at   int
}

// short: what v is, cut where it is long.
func short(v any) string {
	s := fmt.Sprint(v)
	return s[:min(len(s), 300)]
}

func lexOf(s string) lexed {
	l, code, at := impl.Lex(s)
	return lexed{nilIfEmpty(l), code, at}
}

func num(at, n int) impl.Tok { return impl.Tok{Kind: impl.TokNum, N: n, At: at} }

func name(at int, s string) impl.Tok { return impl.Tok{Kind: impl.TokName, S: s, At: at} }

func sign(at int, s string) impl.Tok { return impl.Tok{Kind: impl.TokSign, S: s, At: at} }

func wantLexed(t *testing.T, s string, want lexed) {
	t.Helper()
	if got := lexOf(s); !reflect.DeepEqual(got, want) {
		t.Errorf("Lex(%.80q) is %s, not %s", s, short(got), short(want))
	}
	if model := wantLex(s); !reflect.DeepEqual(model, want) {
		t.Errorf("the tests' own reader tells %s of %.80q, not %s", short(model), s, short(want))
	}
}

// wantToks: Lex tells these tokens, and neither a code nor a place.
func wantToks(t *testing.T, s string, l ...impl.Tok) {
	t.Helper()
	wantLexed(t, s, lexed{toks: l})
}

// wantLexFault: Lex tells the code and the place, and nothing beside them.
func wantLexFault(t *testing.T, s string, code, at int) {
	t.Helper()
	wantLexed(t, s, lexed{code: code, at: at})
}

// wantAsLexed: Lex tells what the tests' own reader does.
func wantAsLexed(t *testing.T, s string) {
	t.Helper()
	if got, want := lexOf(s), wantLex(s); !reflect.DeepEqual(got, want) {
		t.Errorf("Lex(%.80q) is %s, not %s", s, short(got), short(want))
	}
}

// first: what may stand first in a text: a gap, a number, a word, another sign.
var first = regexp.MustCompile(`^(?:((?s)/\*.*?\*/|[\x20\x09\x0a\x0d])|([0-9]+)|([a-z][a-zA-Z0-9_]*)|(\|\||&&|==|!=|<=|>=|<<|>>|[(){}\[\],;=<>+*/%&|^!~-]))`)

// wantLex: the tests' own reader, which cuts off what a pattern finds first; it
// shares no way of reading with the program.
func wantLex(s string) lexed {
	if len(s) > 6000 {
		return lexed{code: tooLongText}
	}
	var l []impl.Tok
	for at := 0; at < len(s); {
		m := first.FindStringSubmatch(s[at:])
		switch {
		case strings.HasPrefix(s[at:], "/*") && (m == nil || m[1] == ""):
			return lexed{code: unendedWords, at: at}
		case m == nil:
			return lexed{code: noTokenByte, at: at}
		case m[2] != "":
			n, _ := new(big.Int).SetString(m[2], 10)
			if n.Cmp(big.NewInt(2147483647)) > 0 {
				return lexed{code: greatNumber, at: at}
			}
			l = append(l, num(at, int(n.Int64())))
		case slices.Contains(wordSigns, m[3]), m[4] != "":
			l = append(l, sign(at, m[0]))
		case m[3] != "":
			l = append(l, name(at, m[3]))
		}
		at += len(m[0])
	}
	return lexed{toks: l}
}

// moved: the tokens with At 0.
func moved(l []impl.Tok) []impl.Tok {
	l = slices.Clone(l)
	for k := range l {
		l[k].At = 0
	}
	return l
}

// texts: every text of up to size letters; a letter may have many bytes.
func texts(letters []string, size int) []string {
	all := []string{""}
	from := 0
	for range size {
		to := len(all)
		for _, s := range all[from:to] {
			for _, c := range letters {
				all = append(all, s+c)
			}
		}
		from = to
	}
	return all
}

// usualNames: names short and long, with great letters, digits and '_', and such as have a word sign in them.
func usualNames() []string {
	l := []string{"a", "z", "x1", "x_1", "aZ", "zA9_", "a_", "a__b", "get", "put", "size", "main", "abcdefghijkl", "abcdefghijklm", "a" + strings.Repeat("Z_9b", 50)}
	for _, w := range wordSigns {
		l = append(l, w+w, w+"x", "x"+w, w+"1", w+"_", w+"X", w[:len(w)-1], w[:1]+strings.ToUpper(w[1:]))
	}
	return l
}

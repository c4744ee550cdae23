package tests

import (
	"slices"
	"strconv"
	"strings"
	"testing"

	"loop.example/g00472/impl"
)

func TestLexOfNumbers(t *testing.T) {
	for _, n := range []int{0, 1, 9, 10, 99, 100, 255, 65536, 999999999, 1000000000, 2000000000, 2147483639, 2147483640, 2147483646, 2147483647} {
		s := strconv.Itoa(n)
		wantToks(t, s, num(0, n))
		wantToks(t, " "+s+";", num(1, n), sign(1+len(s), ";"))
		for _, zeros := range []int{1, 2, 9, 20, 5000} {
			wantToks(t, strings.Repeat("0", zeros)+s, num(0, n))
		}
	}
	for _, zeros := range []int{1, 2, 10, 11, 20, 6000} {
		wantToks(t, strings.Repeat("0", zeros), num(0, 0))
	}
}

func TestLexOfNumbersThatAreTooGreat(t *testing.T) {
	for _, s := range []string{
		"2147483648", "2147483649", "2147483650", "2147483657", "2147484000", "2200000000", "3000000000", "9999999999", "4294967295", "4294967296", "4294967297", "10000000000", "21474836470",
		"9223372036854775807", "9223372036854775808", "18446744073709551615", "18446744073709551616", "18446744073709551617", "36893488147419103232",
		strings.Repeat("9", 100), strings.Repeat("1", 6000), "1" + strings.Repeat("0", 5999),
	} {
		wantLexFault(t, s, greatNumber, 0)
		if len(s) < 5000 {
			wantLexFault(t, strings.Repeat("0", 900)+s, greatNumber, 0)
			wantLexFault(t, "x = "+s+";", greatNumber, 4)
			wantLexFault(t, s+"x", greatNumber, 0)
			wantLexFault(t, "1 "+s, greatNumber, 2)
		}
	}
	wantLexFault(t, strings.Repeat("0", 5990)+"2147483648", greatNumber, 0)
	wantToks(t, strings.Repeat("0", 5990)+"2147483647", num(0, 2147483647))
}

func TestLexOfNumbersNextToOthers(t *testing.T) {
	wantToks(t, "12ab", num(0, 12), name(2, "ab"))
	wantToks(t, "ab12", name(0, "ab12"))
	wantToks(t, "1if2", num(0, 1), name(1, "if2"))
	wantToks(t, "1if 2", num(0, 1), sign(1, "if"), num(4, 2))
	wantToks(t, "0x1f", num(0, 0), name(1, "x1f"))
	wantToks(t, "1e5", num(0, 1), name(1, "e5"))
	wantToks(t, "1 2", num(0, 1), num(2, 2))
	wantToks(t, "1/**/2", num(0, 1), num(5, 2))
	wantToks(t, "-1", sign(0, "-"), num(1, 1))
	wantToks(t, "+1-2", sign(0, "+"), num(1, 1), sign(2, "-"), num(3, 2))
	wantToks(t, "1<<2", num(0, 1), sign(1, "<<"), num(3, 2))
	wantToks(t, "-2147483647", sign(0, "-"), num(1, 2147483647))
	wantLexFault(t, "-2147483648", greatNumber, 1)
	wantLexFault(t, "1_000", noTokenByte, 1)
	wantLexFault(t, "1.5", noTokenByte, 1)
	wantLexFault(t, "1X", noTokenByte, 1)
}

func TestLexOfNames(t *testing.T) {
	for _, s := range usualNames() {
		wantToks(t, s, name(0, s))
		wantToks(t, " "+s+" ", name(1, s))
		wantToks(t, "("+s+")", sign(0, "("), name(1, s), sign(1+len(s), ")"))
		wantToks(t, s+"="+s, name(0, s), sign(len(s), "="), name(len(s)+1, s))
		wantToks(t, s+"/**/"+s, name(0, s), name(len(s)+4, s))
		wantToks(t, "7"+s, num(0, 7), name(1, s))
	}
	for _, s := range []string{"A", "Ab", "_", "_a", "__", "IF", "Int", "INT", "_if"} {
		wantLexFault(t, s, noTokenByte, 0)
		wantLexFault(t, "a "+s, noTokenByte, 2)
		wantLexFault(t, "1"+s, noTokenByte, 1)
		wantToks(t, "a"+s, name(0, "a"+s))
	}
}

// No other word is a sign: not one of up to three letters, and none that is one in other languages.
func TestLexOfWordsThatAreNames(t *testing.T) {
	l := texts(strings.Split("abcdefghijklmnopqrstuvwxyz", ""), 3)[1:]
	l = append(l, strings.Fields("elif then break continue goto case switch default const void char bool long float true false null nil this self fun function def struct type import print read main begin endif until loop block call drop select local global memory")...)
	for _, s := range l {
		want := name(0, s)
		if slices.Contains(wordSigns, s) {
			want = sign(0, s)
		}
		got := lexOf(s)
		if got.code != 0 || !slices.Equal(got.toks, []impl.Tok{want}) || impl.NameOk(s) != (want.Kind == impl.TokName) {
			t.Errorf("Lex(%q) is %v, and NameOk %v", s, got, impl.NameOk(s))
		}
	}
}

func TestLexOfWordsThatAreSigns(t *testing.T) {
	for _, w := range wordSigns {
		wantToks(t, w, sign(0, w))
		wantToks(t, "("+w+"(", sign(0, "("), sign(1, w), sign(1+len(w), "("))
		wantToks(t, "1"+w, num(0, 1), sign(1, w))
		for _, v := range wordSigns {
			wantToks(t, w+" "+v, sign(0, w), sign(len(w)+1, v))
			wantToks(t, w+"/**/"+v, sign(0, w), sign(len(w)+4, v))
			wantToks(t, w+v, name(0, w+v))
			wantToks(t, w+"_"+v, name(0, w+"_"+v))
		}
		for _, more := range []string{"0", "9", "_", "a", "z", "A", "Z", "s", "1_"} {
			wantToks(t, w+more, name(0, w+more))
		}
		for _, ahead := range []string{"a", "x", "i", "a1", "a_", "aZ"} {
			wantToks(t, ahead+w, name(0, ahead+w))
		}
		for k := 1; k < len(w); k++ {
			wantToks(t, w[:k], name(0, w[:k]))
			wantToks(t, w[:k]+" "+w[k:], name(0, w[:k]), name(k+1, w[k:]))
		}
		wantLexFault(t, strings.ToUpper(w), noTokenByte, 0)
		wantToks(t, w[:1]+strings.ToUpper(w[1:]), name(0, w[:1]+strings.ToUpper(w[1:])))
	}
}

func TestLexOfEachSign(t *testing.T) {
	for _, s := range allSigns() {
		wantToks(t, s, sign(0, s))
		wantToks(t, " "+s+"\n", sign(1, s))
		for _, other := range allSigns() {
			wantToks(t, s+" "+other, sign(0, s), sign(len(s)+1, other))
		}
	}
}

// A sign of two bytes is one where nothing parts them; where something does its bytes are signs of their own.
func TestLexOfSignsOfTwoBytes(t *testing.T) {
	for _, s := range doubleSigns {
		a, b := s[:1], s[1:]
		wantToks(t, a, sign(0, a))
		wantToks(t, "x"+a+"y", name(0, "x"), sign(1, a), name(2, "y"))
		wantToks(t, "x"+s+"y", name(0, "x"), sign(1, s), name(3, "y"))
		wantToks(t, s+s, sign(0, s), sign(2, s))
		for _, gap := range []string{" ", "\t", "\n", "\r", "/**/", "/* */ "} {
			wantToks(t, a+gap+b, sign(0, a), sign(1+len(gap), b))
		}
	}
	for _, s := range []string{"=<", "=>", "=!", "=&", "<>", "><", "|&", "&|", "^^", "!!", "~~", "++", "--", "**", "//", "%%", "+=", "-=", "|=", "&=", "^=", "~=", "!<", "()", "[]", "{}", ",,", ";;", "->", "*/", "%="} {
		wantToks(t, s, sign(0, s[:1]), sign(1, s[1:]))
	}
}

func TestLexOfSignsInARow(t *testing.T) {
	for text, parts := range map[string]string{
		"<<<": "<< <", "<<<<": "<< <<", "<<=": "<< =", "<<==": "<< ==", "<=<": "<= <", "<==": "<= =", "<===": "<= ==", "<=>": "<= >", "<=>=": "<= >=",
		">>>": ">> >", ">>=": ">> =", ">>>=": ">> >=", ">==": ">= =", ">=>": ">= >",
		"===": "== =", "====": "== ==", "=====": "== == =", "=!=": "= !=", "==!=": "== !=", "=<=": "= <=", "=<<": "= <<", "=>>": "= >>",
		"!==": "!= =", "!===": "!= ==", "!!=": "! !=", "!!!": "! ! !", "!!!=": "! ! !=",
		"&&&": "&& &", "&&&&": "&& &&", "&&=": "&& =", "&==": "& ==", "|||": "|| |", "||||": "|| ||", "|&&": "| &&", "&||": "& ||", "||=": "|| =", "|&|": "| & |",
		"<>=": "< >=", "><=": "> <=", "><<": "> <<", "<>>": "< >>", "^^^": "^ ^ ^", "~!=": "~ !=", "-=-": "- = -", "*/*": "", "**/": "* * /", "+++": "+ + +", "%%=": "% % =", "()=": "( ) =",
	} {
		if parts == "" {
			wantLexFault(t, text, unendedWords, 1)
			continue
		}
		at := 0
		want := lexed{}
		for _, s := range strings.Fields(parts) {
			want.toks = append(want.toks, sign(at, s))
			at += len(s)
		}
		wantLexed(t, text, want)
	}
}

// Every short text of the bytes that signs and remarks have.
func TestLexOfManySigns(t *testing.T) {
	for _, s := range texts(strings.Split("|&=!<>/* ", ""), 5) {
		wantAsLexed(t, s)
	}
	for _, s := range texts(append(singleSigns, " ", "a"), 3) {
		wantAsLexed(t, s)
	}
}

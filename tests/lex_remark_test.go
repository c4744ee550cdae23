package tests

import (
	"strings"
	"testing"

	"loop.example/g00472/impl"
)

func TestLexOfRemarks(t *testing.T) {
	for _, s := range []string{
		"/**/", "/* */", "/***/", "/****/", "/*****/", "/*a*/", "/* /* */", "/*/**/", "/*/*/", "/*//*/", "/* * / */", "/* ** */", "/* **/", "/*** */", "/*\n\n*/", "/* // */", "/*\x00\xff#*/", "/*#*/", "/*2147483648*/", "/* if ( */", "/*'\"*/",
	} {
		wantToks(t, s)
		wantToks(t, s+s)
		wantToks(t, "a"+s+"b", name(0, "a"), name(1+len(s), "b"))
		wantToks(t, "1"+s+"2", num(0, 1), num(1+len(s), 2))
		wantToks(t, "<"+s+"<", sign(0, "<"), sign(1+len(s), "<"))
		wantToks(t, "i"+s+"f", name(0, "i"), name(1+len(s), "f"))
		wantToks(t, "if"+s+"else", sign(0, "if"), sign(2+len(s), "else"))
		wantToks(t, "/"+s+"*", sign(0, "/"), sign(1+len(s), "*"))
		wantToks(t, "*"+s+"/", sign(0, "*"), sign(1+len(s), "/"))
	}
}

// A remark goes to the next end, whatever stands in it.
func TestRemarksEndAtTheNextEnd(t *testing.T) {
	wantToks(t, "/* a */ b */", name(8, "b"), sign(10, "*"), sign(11, "/"))
	wantToks(t, "/* /* */ a */", name(9, "a"), sign(11, "*"), sign(12, "/"))
	wantToks(t, "/**/*/", sign(4, "*"), sign(5, "/"))
	wantToks(t, "/*/*/a", name(5, "a"))
	wantToks(t, "/***/a", name(5, "a"))
	wantToks(t, "/**/a/**/", name(4, "a"))
	wantToks(t, "/**//", sign(4, "/"))
	wantToks(t, "//**/", sign(0, "/"))
	wantToks(t, "a//**/b", name(0, "a"), sign(1, "/"), name(6, "b"))
	wantLexFault(t, "/**//*", unendedWords, 4)
	wantLexFault(t, "/* */ #", noTokenByte, 6)
}

func TestRemarksThatAreNotEnded(t *testing.T) {
	for _, s := range []string{"/*", "/*/", "/* ", "/* *", "/**", "/** /", "/*a", "/*/*", "/* * /", "/*\n", "/*#", "/*2147483648", "/*\xff", "/*" + strings.Repeat("*", 5998), "/*" + strings.Repeat("/", 5998)} {
		wantLexFault(t, s, unendedWords, 0)
		if len(s) > 100 {
			continue
		}
		for _, ahead := range []string{"a", "1", "(", " ", "<<", "if", "a b ", "/**/", "/* */\n", "*"} {
			wantLexFault(t, ahead+s, unendedWords, len(ahead))
		}
		wantLexFault(t, "/"+s, unendedWords, 1)
	}
}

// Only '/' with '*' right behind it begins a remark, and only '*' with '/' right behind it ends one.
func TestPartedMarksAreSigns(t *testing.T) {
	for _, gap := range []string{" ", "\t", "\n", "\r", "  "} {
		wantToks(t, "/"+gap+"*", sign(0, "/"), sign(1+len(gap), "*"))
		wantToks(t, "*"+gap+"/", sign(0, "*"), sign(1+len(gap), "/"))
		wantToks(t, "a/"+gap+"*b", name(0, "a"), sign(1, "/"), sign(2+len(gap), "*"), name(3+len(gap), "b"))
		wantLexFault(t, "/*"+gap+"*"+gap+"/", unendedWords, 0)
		wantToks(t, "/"+gap+"* *"+gap+"/", sign(0, "/"), sign(1+len(gap), "*"), sign(3+len(gap), "*"), sign(4+2*len(gap), "/"))
	}
	wantToks(t, "/", sign(0, "/"))
	wantToks(t, "*/", sign(0, "*"), sign(1, "/"))
	wantToks(t, "//", sign(0, "/"), sign(1, "/"))
	wantToks(t, "a/b", name(0, "a"), sign(1, "/"), name(2, "b"))
	wantToks(t, "a*b", name(0, "a"), sign(1, "*"), name(2, "b"))
}

func TestPlacesBehindGaps(t *testing.T) {
	for _, gap := range texts([]string{" ", "\t", "\n", "\r", "/**/", "/* x */"}, 3) {
		for _, tok := range []impl.Tok{num(0, 7), name(0, "x"), sign(0, "if"), sign(0, "("), sign(0, "<=")} {
			text := impl.TokText(tok)
			tok.At = len(gap)
			wantToks(t, gap+text, tok)
			wantToks(t, gap+text+gap, tok)
			behind := tok
			behind.At = 2*len(gap) + len(text)
			if gap != "" {
				wantToks(t, gap+text+gap+text, tok, behind)
			}
		}
	}
	wantToks(t, strings.Repeat(" ", 4000)+"/*"+strings.Repeat("x", 1000)+"*/a", name(5004, "a"))
}

// Every text of a few parts with the marks of remarks among them.
func TestLexOfManyRemarks(t *testing.T) {
	for _, s := range texts([]string{"/", "*", "/*", "*/", "a", "#", " "}, 5) {
		wantAsLexed(t, s)
	}
}

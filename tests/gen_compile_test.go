package tests

import (
	"bytes"
	"reflect"
	"slices"
	"strings"
	"testing"

	"loop.example/g00472/impl"
)

// wantReadBack (P2): the bytes are read as the module that Gen tells of p, and that is a right module.
func wantReadBack(t *testing.T, what string, p impl.Source, b []byte) {
	t.Helper()
	own, ok := impl.Gen(p)
	m, code := impl.ReadModule(b)
	if !ok || code != 0 || !impl.SameModule(m, own) || !alike(m, own) {
		t.Errorf("ReadModule has code %d and tells %s, Gen %s, %v, of %.400s", code, modulesText(m), modulesText(own), ok, what)
		return
	}
	if !impl.ModuleOk(m) || !impl.ModuleOk(own) {
		t.Errorf("the module isn't right, of %.400s", what)
	}
	for fn := range p.Fns {
		if at := impl.FaultAt(m, fn); at != -1 {
			t.Errorf("function %d has a fault at %d, of %.400s", fn, at, what)
		}
		wantAsWalked(t, m, fn)
	}
}

// compiled: what Compile tells.
type compiled struct {
	bytes []byte
	code  int
	at    int
}

func compiledOf(s string) compiled {
	b, code, at := impl.Compile(s)
	return compiled{nilIfEmpty(b), code, at}
}

// wantCompiled: Compile tells what the tests' own readers, rules, compiler and writer do of the text.
func wantCompiled(t *testing.T, s string) compiled {
	t.Helper()
	read := wantParse(s)
	want := compiled{code: read.code, at: read.at}
	if want.code == 0 {
		want.code, want.at = wantCheckOf(read.p)
	}
	if want.code == 0 {
		if m, ok := wantGenOf(t, read.p); ok {
			want.bytes = shortest().module(m)
		} else {
			want.code = noModule
		}
	}
	got := compiledOf(s)
	if !reflect.DeepEqual(got, want) {
		t.Errorf("Compile is % x, code %d and place %d, not % x, %d and %d, of %.300q", got.bytes, got.code, got.at, want.bytes, want.code, want.at, s)
	}
	if got.code == 0 {
		wantReadBack(t, s, read.p, got.bytes)
	}
	return got
}

// wantCompileFault: Compile tells that code, at the place at which the text has a '@'; at 0 where it has none.
func wantCompileFault(t *testing.T, code int, marked string) {
	t.Helper()
	ahead, _, is := strings.Cut(marked, "@")
	s := unmarked(marked)
	if got, want := wantCompiled(t, s), (compiled{nil, code, one(is) * len(ahead)}); !reflect.DeepEqual(got, want) {
		t.Errorf("Compile is % x, code %d and place %d, not %d and %d, of %.300q", got.bytes, got.code, got.at, want.code, want.at, s)
	}
}

// The bytes of two programs, written out.
func TestCompileByHand(t *testing.T) {
	const head = headBytes +
		"\x01\x09\x02\x60\x00\x01\x7f\x60\x01\x7f\x00" +
		"\x02\x13\x02\x02io\x03get\x00\x00\x02io\x03put\x00\x01" +
		"\x03\x02\x01\x00" +
		"\x05\x04\x01\x01\x01\x01" +
		"\x06\x06\x01\x7f\x01\x41\x00\x0b" +
		"\x07\x08\x01\x04main\x00\x02"
	for _, c := range [][2]string{
		{"func main() { }", "\x0a\x08\x01\x06\x01\x01\x7f\x41\x00\x0b"},
		{"func main() { return put(5); }", "\x0a\x0f\x01\x0d\x01\x01\x7f\x41\x05\x10\x01\x41\x00\x0f\x41\x00\x0b"},
	} {
		if got := wantCompiled(t, c[0]); string(got.bytes) != head+c[1] || got.code != 0 || got.at != 0 {
			t.Errorf("Compile is % x, %d, %d, of %s", got.bytes, got.code, got.at, c[0])
		}
	}
}

// A fault of each code of the chapters ahead, with its place, and of several the first one.
func TestCompileOfTextsWithFaults(t *testing.T) {
	for _, c := range []struct {
		code   int
		marked string
	}{
		{noMain, ""},
		{noMain, " /* */ "},
		{tooLongText, strings.Repeat(" ", 6001)},
		{noTokenByte, "func main() { @# }"},
		{noTokenByte, "@#"},
		{greatNumber, "func main() { return @2147483648; }"},
		{unendedWords, "func main() { } @/*"},
		{wrongToken, "func main() { 1 @= 2; }"},
		{wrongToken, "@main() { }"},
		{wrongToken, "func main() { @"},
		{longName, "func main() { @abcdefghijklm; }"},
		{longName, "int @abcdefghijklm;"},
		{tooDeep, "func main() { " + strings.Repeat("-", 57) + "@-1; }"},
		{manyNodes, withNodes(801, false)},
		{takenName, "int g; int g; func main() { }"},
		{takenName, "func main() { var x = 1; @var x = 2; }"},
		{noName, "func main() { return @x; }"},
		{noName, "func main() { @x = 1; }"},
		{noName, "func main() { 1 + @f(); }"},
		{otherArgs, "func main() { @get(1); }"},
		{otherArgs, "func main() { put(@main(1)); }"},
		{notArray, "func main() { @a[0]; }"},
		{notArray, "int g; func main() { @size(g); }"},
		{notArray, "int g; func main() { @g[1] = 2; }"},
		{noMain, "func f() { }"},
		{noMain, "func main(x) { }"},
		{tooMuch, "int a[0]; func main() { }"},
		{tooMuch, "int a[8001]; func main() { }"},
		{tooMuch, "func main() { " + eachAs(counted("v", 40), "var * = 1; ") + "@var w = 1; }"},
		{noModule, "int a[1]; func main() { " + statementsOf(1500) + "}"},
		{noModule, "func f(" + strings.Join(counted("x", 29), ", ") + ") { } func main() { }"},
		// Of several the first one in the order of the chapters.
		{noTokenByte, "func main() { x; 1 = 2; @# }"},
		{wrongToken, "func main() { x; 1 @= 2; }"},
		{takenName, "int g; int g; func f() { x; }"},
		{noName, "int a[1]; func main() { " + statementsOf(1500) + "@x; }"},
		{noName, "func f(" + strings.Join(counted("x", 29), ", ") + ") { } func main() { @x; }"},
	} {
		wantCompileFault(t, c.code, c.marked)
	}
}

// Each text of the chapters ahead, with a fault or without one.
func TestCompileOfTheTextsAhead(t *testing.T) {
	l := slices.Concat(parseTexts(), lexTexts(), rightTexts())
	for _, texts := range codedTexts() {
		l = append(l, texts...)
	}
	for _, f := range append(flawedStatements(), flawedExpressions()...) {
		l = append(l, "int g; int a[3]; func f(x) { } func main() { "+unmarked(f.s)+"; }")
	}
	told := map[int]int{}
	for _, s := range l {
		told[wantCompiled(t, s).code]++
		told[wantCompiled(t, s+" func main() { }").code]++
	}
	for _, code := range []int{0, tooLongText, noTokenByte, greatNumber, unendedWords, wrongToken, longName, tooDeep, manyNodes, takenName, noName, otherArgs, notArray, noMain, tooMuch} {
		if told[code] == 0 {
			t.Errorf("no text has code %d: these tell too little", code)
		}
	}
}

// A text is refused just where it has a fault: right programs, and these with one thing changed.
func TestCompileOfProgramsWithChanges(t *testing.T) {
	next := spread()
	told := map[int]int{}
	manyRight(60, func(p impl.Source) {
		if len(p.Nodes) > 60 {
			return
		}
		told[wantCompiled(t, impl.PrintSource(p)).code]++
		changesOf(next, p, func(what string, q impl.Source) {
			if next(4) == 0 && impl.FormOk2(q) {
				told[wantCompiled(t, impl.PrintSource(q)).code]++
			}
		})
	})
	for _, code := range []int{0, takenName, noName, otherArgs, notArray, noMain} {
		if told[code] < 10 {
			t.Errorf("code %d is told only %d times", code, told[code])
		}
	}
}

// A right text that is cut off, or that lacks a byte or has another one.
func TestCompileOfTextsWithOtherBytes(t *testing.T) {
	const s = "int g; int a[2]; func f(x) { var y = x; return a[y] && g; } func main() { if (f(1)) { a[0] = -g; } else { put(size(a)); } while (get()) { g = 1; } }"
	told := map[int]int{}
	for at := range s {
		told[wantCompiled(t, s[:at]).code]++
		told[wantCompiled(t, s[:at]+s[at+1:]).code]++
		for _, b := range "x1=();{}[ #" {
			told[wantCompiled(t, s[:at]+string(b)+s[at+1:]).code]++
		}
	}
	for _, code := range []int{0, noTokenByte, wrongToken, noName, otherArgs, notArray, noMain} {
		if told[code] < 3 {
			t.Errorf("code %d is told only %d times: %v", code, told[code], told)
		}
	}
}

// P2 of many right programs: Compile tells the bytes of the module that Gen tells, and these are read as it.
func TestManyProgramsAreReadBack(t *testing.T) {
	count := 0
	ask := func(p impl.Source) {
		text := impl.PrintSource(p)
		m, ok := wantAsGenerated(t, text, p)
		if !ok {
			t.Errorf("there is no module of %.600s", text)
			return
		}
		want := shortest().module(m)
		if got := compiledOf(text); !bytes.Equal(got.bytes, want) || got.code != 0 || got.at != 0 {
			t.Errorf("Compile is % x, code %d and place %d, not % x, of %.600s", got.bytes, got.code, got.at, want, text)
		}
		wantReadBack(t, text, p, want)
		count++
	}
	manyRight(400, ask)
	manyLively(400, func(p impl.Source, in []int) { ask(p) })
	if count < 600 {
		t.Errorf("only %d programs were asked", count)
	}
}

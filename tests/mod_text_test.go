package tests

import (
	"math"
	"slices"
	"strconv"
	"strings"
	"testing"

	"loop.example/g00472/impl"
)

// wantText: an instruction's text, by the words of the chapter.
func wantText(i impl.Ins) string {
	k, _ := knownOp(i.Op)
	s := k.name
	for _, n := range []int{i.A, i.B}[:k.count] {
		s += " " + strconv.Itoa(n)
	}
	return s
}

func wantTexts(l []impl.Ins) string {
	var texts []string
	for _, i := range l {
		texts = append(texts, wantText(i))
	}
	return strings.Join(texts, ";")
}

// wantBoth: the body has its text, and the text has its body.
func wantBoth(t *testing.T, l []impl.Ins) {
	t.Helper()
	s := wantTexts(l)
	if text := impl.BodyText(l); text != s {
		t.Errorf("BodyText of %d instructions is %.80q, not %.80q", len(l), text, s)
	}
	back, ok := impl.TextBody(s)
	if !ok || !slices.Equal(back, l) {
		t.Errorf("TextBody(%.80q) is %d instructions, %v", s, len(back), ok)
	}
}

func TestTextsOfEachInstruction(t *testing.T) {
	for _, i := range rightIns() {
		wantBoth(t, []impl.Ins{i})
	}
}

func TestTextsOfManyInstructions(t *testing.T) {
	all := rightIns()
	wantBoth(t, nil)
	wantBoth(t, all)
	wantBoth(t, slices.Repeat(all, 200))
	for k := range all {
		for step := 1; step < 12; step++ {
			l := []impl.Ins{}
			for n := range step {
				l = append(l, all[(k+n*step*7)%len(all)])
			}
			wantBoth(t, l)
		}
	}
}

func TestTextsWrittenOut(t *testing.T) {
	texts := map[string][]impl.Ins{
		"":                             nil,
		"unreachable":                  {{}},
		"i32.const -2147483648":        {{Op: 65, A: impl.MinI}},
		"i32.load 2147483647 2":        {{Op: 40, A: impl.MaxI, B: 2}},
		"i32.store 0 0;nop":            {{Op: 54}, {Op: 1}},
		"br 1000;br_if 0;call 7":       {{Op: 12, A: 1000}, {Op: 13}, {Op: 16, A: 7}},
		"if 1;else;end":                {{Op: 4, A: 1}, {Op: 5}, {Op: 11}},
		"end;else;loop 0;block 1":      {{Op: 11}, {Op: 5}, {Op: 3}, {Op: 2, A: 1}},
		"memory.size;memory.grow;drop": {{Op: 63}, {Op: 64}, {Op: 26}},
		"i32.rotr;i32.ge_u;i32.popcnt": {{Op: 120}, {Op: 79}, {Op: 105}},
	}
	for s, l := range texts {
		if wantTexts(l) != s {
			t.Errorf("the tests' own text is %q, not %q", wantTexts(l), s)
		}
		wantBoth(t, l)
	}
}

func TestBodyTextOfWrongInstructions(t *testing.T) {
	for _, op := range append(farOps(), -1, 0, 6, 10, 11, 12, 14, 16, 40, 65, 68, 80, 102, 120, 121) {
		for _, a := range ends() {
			for _, b := range ends() {
				i := impl.Ins{Op: op, A: a, B: b}
				if wantInsOk(i) {
					continue
				}
				right := impl.Ins{Op: impl.OpNop}
				for _, l := range [][]impl.Ins{{i}, {right, i}, {i, right}, {right, i, right}} {
					if text := impl.BodyText(l); text != "" {
						t.Errorf("BodyText(%+v) is %q", l, text)
					}
				}
			}
		}
	}
}

// wantNoBody: the text is refused, and nothing is told beside that.
func wantNoBody(t *testing.T, s string) {
	t.Helper()
	if l, ok := impl.TextBody(s); ok || len(l) != 0 {
		t.Errorf("TextBody(%.80q) is %d instructions, %v", s, len(l), ok)
	}
}

func TestTextBodyOfNearTexts(t *testing.T) {
	for _, i := range rightIns() {
		s := wantText(i)
		for _, wrong := range []string{
			s + ";", ";" + s, s + ";;" + s, s + " ", " " + s, s + " ;nop", "nop; " + s, s + "; nop", s + ",nop", s + "\nnop", s + "\n", s + "\t", s + "\x00",
			s + " 0", s + " 0 0", s + " 0 0 0", s + " x", strings.ToUpper(s), s + s, strings.Replace(s, " ", "  ", 1) + "  ", "\ufeff" + s,
		} {
			wantNoBody(t, wrong)
		}
		if k, _ := knownOp(i.Op); k.count > 0 {
			wantNoBody(t, strings.Replace(s, " ", "  ", 1))
			wantNoBody(t, strings.Replace(s, " ", ";", 1))
			wantNoBody(t, strings.Replace(s, " ", "", 1))
			wantNoBody(t, strings.Replace(s, " ", "\t", 1))
			wantNoBody(t, s[:strings.LastIndex(s, " ")])
			wantNoBody(t, s[:strings.LastIndex(s, " ")+1])
			wantNoBody(t, k.name)
		}
	}
}

// oddNumbers: texts that are no number as NumText writes it.
func oddNumbers() []string {
	return []string{"", "+1", "01", "00", "-0", "-01", "--1", "1.", "1.0", "0x1", "1e0", "1_0", "x", "-", "+", "²", "١", "2147483648", "-2147483649", "4294967295", "18446744073709551616", strings.Repeat("1", 4000), strconv.Itoa(math.MinInt)}
}

func TestTextBodyOfOddNumbers(t *testing.T) {
	for _, k := range knownOps() {
		for _, odd := range oddNumbers() {
			switch k.count {
			case 0:
				wantNoBody(t, k.name+" "+odd)
			case 1:
				wantNoBody(t, k.name+" "+odd)
				wantNoBody(t, "nop;"+k.name+" "+odd+";nop")
			case 2:
				wantNoBody(t, k.name+" "+odd+" 0")
				wantNoBody(t, k.name+" 0 "+odd)
			}
		}
	}
}

// Numbers that NumText writes, but InsOk doesn't take there.
func TestTextBodyOfNumbersOutside(t *testing.T) {
	for _, k := range knownOps() {
		for _, a := range ends() {
			for _, b := range ends() {
				i := impl.Ins{Op: k.op, A: a, B: b}
				if k.count == 0 || k.count == 1 && b != 0 {
					continue
				}
				if wantInsOk(i) {
					wantBoth(t, []impl.Ins{i})
				} else {
					wantNoBody(t, wantText(i))
				}
			}
		}
	}
}

func TestTextBodyOfOtherTexts(t *testing.T) {
	for _, s := range []string{" ", ";", ";;", "x", "0", "nop nop", "nop;x", "x;nop", "i32", "i32.", "i32. add", "br_table 0", "local.get", "local.get x", "local.get 0 0", "i32.load 0", "i32.load 0 3", "i32.load 0  0", "if", "if 2", "block -1", "nop;nop;", "nop;;nop", "-1", "end 0", "\x00", "\xff", "nop\r\n"} {
		wantNoBody(t, s)
	}
	for _, k := range knownOps() {
		for _, near := range nearNames(k.name) {
			l, ok := impl.TextBody(near)
			if ok != (near == "" || wantTexts(l) == near) || !ok && len(l) > 0 {
				t.Errorf("TextBody(%q) is %v, %v", near, l, ok)
			}
		}
	}
}

// Whatever the text, it is taken just where it is the text of the body that is told.
func TestTextBodyTakesTextsOfBodiesAlone(t *testing.T) {
	for _, s := range spellings("0; -", 5) {
		for _, ahead := range []string{"", "nop", "br", "br ", "i32.load 1", "i32.store 0 "} {
			l, ok := impl.TextBody(ahead + s)
			if ok && wantTexts(l) != ahead+s || !ok && len(l) > 0 {
				t.Errorf("TextBody(%q) is %v, %v", ahead+s, l, ok)
			}
		}
	}
}

func TestTextBodyOfLongTexts(t *testing.T) {
	const long = 1 << 18
	for _, s := range []string{strings.Repeat(";", long), strings.Repeat(" ", long), strings.Repeat("nop", long), strings.Repeat("nop;", long), "br " + strings.Repeat("1", long), "i32.load" + strings.Repeat(" 0", long)} {
		wantNoBody(t, s)
	}
	wantBoth(t, times(impl.Ins{Op: impl.OpLoad, A: 3, B: 1}, long))
}

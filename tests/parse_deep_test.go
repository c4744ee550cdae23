package tests

import (
	"strings"
	"testing"
)

// nesting: a text that lies deeper with each count: ahead as often, the middle, behind as often.
type nesting struct {
	ahead  string
	middle string
	behind string
}

func (n nesting) text(count int) string {
	return strings.Repeat(n.ahead, count) + n.middle + strings.Repeat(n.behind, count)
}

// wantDeepest: in the frame (where % stands) the text goes so many times within itself; once more, and what begins
// last in so many times and one lies too deep, behind so many bytes of those that are ahead.
func wantDeepest(t *testing.T, frame string, n nesting, most, skipped int) {
	t.Helper()
	at := strings.Index(frame, "%")
	put := func(count int) string { return strings.Replace(frame, "%", n.text(count), 1) }
	for _, count := range []int{0, 1, most - 1, most} {
		if told := wantAsParsed(t, put(count)); told.code != 0 {
			t.Errorf("%q, %d times %q: %s", frame, count, n.ahead, short(told))
		}
	}
	for _, count := range []int{most + 1, most + 2, most + 40} {
		wantParseFault(t, put(count), tooDeep, at+most*len(n.ahead)+skipped)
	}
}

func TestDepthOfExpressions(t *testing.T) {
	parens := nesting{"(", "1", ")"}
	minus := nesting{"-", "1", ""}
	index := nesting{"a[", "1", "]"}
	arg := nesting{"f(", "1", ")"}
	first := nesting{"f(1,", "1", ")"}
	for frame, deep := range map[string]int{
		"func main() { return %; }":                  4,
		"func main() { %; }":                         4,
		"func main() { x = %; }":                     4,
		"func main() { var x = %; }":                 4,
		"func main() { if (%) { } }":                 4,
		"func main() { while (%) { } }":              4,
		"func main() { a[0] = %; }":                  4,
		"func main() { a[%] = 0; }":                  6,
		"func main() { a[%]; }":                      6,
		"func main() { x = a[%]; }":                  6,
		"func main() { f(%); }":                      6,
		"func main() { f(1, 2, %); }":                6,
		"func main() { (%); }":                       6,
		"func main() { x = -%; }":                    5,
		"func main() { x = !~%; }":                   6,
		"func main() { x = 1 + %; }":                 4,
		"func main() { x = % * 2 - 1; }":             4,
		"func main() { x = 1 || 2 && 3 == % * 2; }":  4,
		"func main() { while (1) { x = %; } }":       6,
		"func main() { if (1) { } else { x = %; } }": 6,
		"func f(x, y) { } func main() { -(%); }":     7,
	} {
		wantDeepest(t, frame, parens, (60-deep)/2, 1)
		wantDeepest(t, frame, index, (60-deep)/2, 2)
		wantDeepest(t, frame, arg, (60-deep)/2, 2)
		wantDeepest(t, frame, first, (60-deep)/2, 2)
		wantDeepest(t, frame, minus, 60-deep, 1)
	}
}

// The statement's depth is 58 within 28 blocks, and 60 within 29; what begins in it lies one deeper each time.
func TestDepthOfStatements(t *testing.T) {
	whiles := nesting{"while (1) { ", "", "} "}
	ifs := nesting{"if (1) { ", "", "} "}
	elses := nesting{"if (1) { } else { ", "", "} "}
	for _, n := range []nesting{whiles, ifs, elses} {
		skipped := strings.Index(n.ahead, "1")
		wantDeepest(t, "func main() { % }", n, 29, skipped)
		wantDeepest(t, "func main() { x; % y; }", n, 29, skipped)
		wantDeepest(t, "func f() { } func main() { % }", n, 29, skipped)
		wantDeepest(t, "func main() { if (1) { % } else { x; } }", n, 28, skipped)
		wantDeepest(t, "func main() { if (1) { x; } else { % } }", n, 28, skipped)
		for _, c := range []struct {
			s          string
			at58, at60 int
		}{
			{"x;", -1, 0},
			{"1;", -1, 0},
			{"x = 1;", -1, 4},
			{"var x = 1;", -1, 8},
			{"return 1;", -1, 7},
			{"if (1) { }", -1, 4},
			{"while (1) { }", -1, 7},
			{"f();", -1, 0},
			{"a[1];", 2, 0},
			{"a[1] = 2;", 2, 0},
			{"f(1);", 2, 0},
			{"x = -1;", 5, 4},
			{"x = (1);", 5, 4},
			{"x = a[1];", 6, 4},
			{"x = f();", -1, 4},
			{"-1;", 1, 0},
			{"(1);", 1, 0},
			{"x + y * z;", -1, 0},
			{"if (x) { y; }", 9, 4},
		} {
			for count, at := range map[int]int{28: c.at58, 29: c.at60} {
				n.middle = c.s
				s := "func main() { " + n.text(count) + "}"
				switch told := wantAsParsed(t, s); {
				case at < 0 && told.code != 0:
					t.Errorf("Parse(%q) is %s", s, short(told))
				case at >= 0:
					wantParseFault(t, s, tooDeep, 14+count*len(n.ahead)+at)
				}
			}
		}
	}
}

// On both sides of '=': what is ahead of it lies as an E that is an operand, so its index lies two deeper than what is behind.
func TestDepthAroundTheSignOfPut(t *testing.T) {
	const within27 = 14 + 27*len("while (1) { ")
	within := func(s string) string {
		return "func main() { " + strings.Repeat("while (1) { ", 27) + s + strings.Repeat("} ", 27) + "}"
	}
	// The statement's depth is 56: its index's operands lie at 60, its value's at 58.
	for _, s := range []string{"a[1] = 2;", "a[x] = y;", "a[1 + 2 * 3] = 4;", "a[f()] = 1;", "a[1] = (2);", "a[1] = -2;", "a[1] = --2;", "a[1] = b[2];", "a[1] = f(2, 3);", "a[1] = (2 + 3) * (4 + 5);"} {
		wantRightText(t, within(s))
	}
	for s, at := range map[string]int{
		"a[(1)] = 2;": 3, "a[-1] = 2;": 3, "a[b[1]] = 2;": 4, "a[f(1)] = 2;": 4, "a[1 + -2] = 3;": 7, "a[(1)];": 3, "a[(1)] == 2;": 3,
		"a[1] = ((2));": 9, "a[1] = ---2;": 10, "a[1] = b[c[2]];": 11, "a[1] = f(g(2));": 11, "a[1] = (-2);": 9, "a[1] = -(2);": 9, "a[1] = 2 + ((3));": 13,
	} {
		wantParseFault(t, within(s), tooDeep, within27+at)
	}
}

// Signs between operands, of whatever levels, lie no deeper than the operands themselves.
func TestSignsBetweenAreNoDeeper(t *testing.T) {
	for _, s := range []string{
		"1 + 2", strings.Repeat("1 + ", 300) + "2", strings.Repeat("x && y || ", 80) + "z", "1||2&&3==4|5^6&7<<8+9*10", "1*2+3<<4&5^6|7==8&&9||10",
	} {
		wantRightText(t, "func main() { return "+nesting{"(", s, ")"}.text(28)+"; }")
		wantRightText(t, "func main() { return "+nesting{"a[", s, "]"}.text(28)+"; }")
		told := "func main() { return " + nesting{"(", s, ")"}.text(29) + "; }"
		wantParseFault(t, told, tooDeep, 21+29)
	}
	wantRightText(t, "func main() { return "+strings.Repeat("-", 56)+"1 + "+strings.Repeat("-", 56)+"2; }")
	wantParseFault(t, "func main() { return "+strings.Repeat("-", 56)+"1 + "+strings.Repeat("-", 57)+"2; }", tooDeep, 21+60+57)
}

// What was deep is left again: what stands behind it lies no deeper.
func TestDepthIsLeftAgain(t *testing.T) {
	deep := nesting{"(", "1", ")"}.text(28)
	wantRightText(t, "func main() { "+strings.Repeat("x = "+deep+"; ", 20)+"}")
	wantRightText(t, "func main() { return f("+strings.Repeat(nesting{"(", "1", ")"}.text(27)+", ", 20)+"1); }")
	wantRightText(t, "func main() { return "+strings.Repeat(deep+" + ", 20)+"1; }")
	blocks := nesting{"while (1) { ", "", "} "}.text(29)
	wantRightText(t, "func main() { "+strings.Repeat(blocks, 9)+"}")
	wantRightText(t, strings.Repeat("func f() { "+blocks+"}", 9))
	wantRightText(t, "func main() { if (1) { "+nesting{"while (1) { ", "", "} "}.text(28)+"} else { "+nesting{"while (1) { ", "", "} "}.text(28)+"} }")
}

func wantRightText(t *testing.T, s string) {
	t.Helper()
	if told := wantAsParsed(t, s); told.code != 0 {
		t.Errorf("Parse(%.200q) is %s", s, short(told))
	}
}

// withNodes: a right text whose program has so many nodes.
func withNodes(count int, threes bool) string {
	s := "func main() { "
	for count--; count > 0; {
		switch {
		case threes && count != 2 && count != 4 || count == 3:
			s += "-x;"
			count -= 3
		default:
			s += "x;"
			count -= 2
		}
	}
	return s + " }"
}

func TestMaxNodes(t *testing.T) {
	for _, threes := range []bool{false, true} {
		for _, count := range []int{798, 799, 800} {
			told := wantAsParsed(t, withNodes(count, threes))
			if told.code != 0 || len(told.p.Nodes) != count {
				t.Errorf("a text of %d nodes: %s", count, short(told))
			}
		}
		for _, count := range []int{801, 802, 803, 1200} {
			wantParseFault(t, withNodes(count, threes), manyNodes, 0)
		}
	}
	// Functions and all kinds of nodes count.
	wantParseFault(t, strings.Repeat("func f(){x;}", 267), manyNodes, 0)
	wantRightText(t, strings.Repeat("func f(){x;}", 266)+"func f(){}func f(){}")
	wantRightText(t, "func f(){1"+strings.Repeat("+1", 398)+";}")
	wantParseFault(t, "func f(){1"+strings.Repeat("+1", 399)+";}", manyNodes, 0)
	wantParseFault(t, "func f(){1"+strings.Repeat("+1", 2993)+";}", manyNodes, 0)
	wantRightText(t, "func f(){x("+strings.Repeat("1,", 796)+"1);}")
	wantParseFault(t, "func f(){x("+strings.Repeat("1,", 797)+"1);}", manyNodes, 0)
	if told := parseOf("int a[1];" + strings.Repeat("int g;", 900)); told.code != 0 || len(told.p.Globals) != 900 {
		t.Errorf("900 globals: %s", short(told))
	}
}

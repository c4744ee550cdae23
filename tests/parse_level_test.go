package tests

import (
	"strings"
	"testing"
)

// Each sign with each other, in both orders: the one that binds more takes its operands; of one level the left one.
func TestEachPairOfSigns(t *testing.T) {
	for _, s := range betweenSigns() {
		for _, r := range betweenSigns() {
			want := "(" + r + " (" + s + " a b) c)"
			if boundLevel(s) < boundLevel(r) {
				want = "(" + s + " a (" + r + " b c))"
			}
			wantExpression(t, "a "+s+" b "+r+" c", want)
			wantExpression(t, "a"+s+"b"+r+"c", want)
			wantExpression(t, "(a "+s+" b) "+r+" c", "("+r+" ("+s+" a b) c)")
			wantExpression(t, "a "+s+" (b "+r+" c)", "("+s+" a ("+r+" b c))")
			wantExpression(t, "f(a "+s+" b, c "+r+" d)", "(call f ("+s+" a b) ("+r+" c d))")
		}
	}
}

func TestLevelsWrittenOut(t *testing.T) {
	for s, want := range map[string]string{
		"1 + 2 * 3":       "(+ 1 (* 2 3))",
		"1 * 2 + 3":       "(+ (* 1 2) 3)",
		"1 - 2 - 3":       "(- (- 1 2) 3)",
		"1 - 2 + 3":       "(+ (- 1 2) 3)",
		"1 / 2 % 3 * 4":   "(* (% (/ 1 2) 3) 4)",
		"1 < 2 == 3":      "(== (< 1 2) 3)",
		"1 == 2 < 3":      "(< (== 1 2) 3)",
		"1 != 2 >= 3":     "(>= (!= 1 2) 3)",
		"1 > 2 <= 3":      "(<= (> 1 2) 3)",
		"1 | 2 ^ 3 & 4":   "(| 1 (^ 2 (& 3 4)))",
		"1 & 2 ^ 3 | 4":   "(| (^ (& 1 2) 3) 4)",
		"1 & 2 == 3":      "(== (& 1 2) 3)",
		"1 == 2 & 3":      "(== 1 (& 2 3))",
		"1 << 2 + 3":      "(<< 1 (+ 2 3))",
		"1 << 2 & 3":      "(& (<< 1 2) 3)",
		"1 << 2 >> 3":     "(>> (<< 1 2) 3)",
		"1 || 2 && 3":     "(|| 1 (&& 2 3))",
		"1 && 2 || 3":     "(|| (&& 1 2) 3)",
		"1 || 2 || 3":     "(|| (|| 1 2) 3)",
		"1 && 2 && 3":     "(&& (&& 1 2) 3)",
		"1 && 2 == 3":     "(&& 1 (== 2 3))",
		"1 - (2 - 3)":     "(- 1 (- 2 3))",
		"((1))":           "1",
		"(((a[(1)])))":    "(at a 1)",
		"(1) + (2)":       "(+ 1 2)",
		"a[1 + 2] * f(3)": "(* (at a (+ 1 2)) (call f 3))",
		"f()":             "(call f)",
		"f(1)":            "(call f 1)",
		"f(g(), h(1, 2))": "(call f (call g) (call h 1 2))",
		"f((1), 2 || 3)":  "(call f 1 (|| 2 3))",
		"a[a[a[0]]]":      "(at a (at a (at a 0)))",
		"a[f(b[1])]":      "(at a (call f (at b 1)))",
	} {
		wantExpression(t, s, want)
	}
}

// chain: the operands with the signs between, taken together from the left.
func chain(operands, signs []string) (s, want string) {
	s, want = operands[0], operands[0]
	for k, sign := range signs {
		s += " " + sign + " " + operands[k+1]
		want = "(" + sign + " " + want + " " + operands[k+1] + ")"
	}
	return s, want
}

func TestSignsOfOneLevelGoFromTheLeft(t *testing.T) {
	next := spread()
	for _, level := range boundLevels {
		for _, sign := range level {
			for _, count := range []int{1, 2, 3, 10, 100} {
				s, want := chain(times("x", count+1), times(sign, count))
				wantExpression(t, s, want)
			}
		}
		for range 20 {
			signs := times("", 1+next(12))
			for k := range signs {
				signs[k] = pick(next, level)
			}
			s, want := chain(strings.Split("a b c d e f g h i j k l m", " ")[:len(signs)+1], signs)
			wantExpression(t, s, want)
		}
	}
}

// All levels in one expression, from the one that binds least on and back.
func TestAllLevelsTogether(t *testing.T) {
	wantExpression(t, "1||2&&3==4|5^6&7<<8+9*10", "(|| 1 (&& 2 (== 3 (| 4 (^ 5 (& 6 (<< 7 (+ 8 (* 9 10)))))))))")
	wantExpression(t, "1*2+3<<4&5^6|7==8&&9||10", "(|| (&& (== (| (^ (& (<< (+ (* 1 2) 3) 4) 5) 6) 7) 8) 9) 10)")
	wantExpression(t, "1*2||3*4", "(|| (* 1 2) (* 3 4))")
	wantExpression(t, "1||2*3||4", "(|| (|| 1 (* 2 3)) 4)")
}

// A sign ahead of an operand takes that operand alone, whatever stands behind it.
func TestSignsAhead(t *testing.T) {
	for _, u := range aheadSigns {
		for text, spelt := range map[string]string{"1": "1", "x": "x", "(x)": "x", "a[1]": "(at a 1)", "f()": "(call f)", "f(1, 2)": "(call f 1 2)", "(1 + 2)": "(+ 1 2)", "(x || y)": "(|| x y)"} {
			one := "(" + u + " " + spelt + ")"
			wantExpression(t, u+text, one)
			wantExpression(t, u+" "+text, one)
			wantExpression(t, "("+u+text+")", one)
			wantExpression(t, "a["+u+text+"]", "(at a "+one+")")
			wantExpression(t, "f(1, "+u+text+")", "(call f 1 "+one+")")
			for _, v := range aheadSigns {
				wantExpression(t, u+v+text, "("+u+" ("+v+" "+spelt+"))")
				wantExpression(t, u+"("+v+text+")", "("+u+" ("+v+" "+spelt+"))")
				for _, w := range aheadSigns {
					wantExpression(t, u+v+w+text, "("+u+" ("+v+" ("+w+" "+spelt+")))")
				}
			}
			for _, s := range betweenSigns() {
				wantExpression(t, u+text+s+"y", "("+s+" "+one+" y)")
				wantExpression(t, "y"+s+" "+u+text, "("+s+" y "+one+")")
				wantExpression(t, u+text+s+u+u+text, "("+s+" "+one+" ("+u+" "+one+"))")
			}
		}
		for _, s := range betweenSigns() {
			if s != "-" {
				bodyFault(t, "return "+u+" "+s+"1;", wrongToken, 9)
				bodyFault(t, "return "+s+"1;", wrongToken, 7)
				bodyFault(t, "return 1 "+s+" "+s+"1;", wrongToken, 10+len(s))
			}
			bodyFault(t, "return 1 "+s+";", wrongToken, 9+len(s))
			bodyFault(t, "return 1 "+s+" "+u+";", wrongToken, 11+len(s))
		}
		bodyFault(t, "return "+u+";", wrongToken, 8)
		bodyFault(t, "return ("+u+");", wrongToken, 9)
		if u != "-" {
			bodyFault(t, "return 1 "+u+" 2;", wrongToken, 9)
			bodyFault(t, "return 1 "+u+";", wrongToken, 9)
		}
	}
	wantExpression(t, "!x == y", "(== (! x) y)")
	wantExpression(t, "x - -1", "(- x (- 1))")
	wantExpression(t, "x--1", "(- x (- 1))")
	wantExpression(t, "x---1", "(- x (- (- 1)))")
	wantExpression(t, "!!x!=!y", "(!= (! (! x)) (! y))")
	wantExpression(t, "~x&~y", "(& (~ x) (~ y))")
}

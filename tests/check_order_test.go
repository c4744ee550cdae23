package tests

import (
	"strings"
	"testing"
)

// flawedCode: a text with the mark of its fault, and the code.
type flawedCode struct {
	code int
	s    string
}

// flawedExpressions: each code that an expression may have.
func flawedExpressions() []flawedCode {
	return []flawedCode{{noName, "@x"}, {notArray, "@g[0]"}, {notArray, "@size(g)"}, {noName, "@nobody()"}, {otherArgs, "@f0(1)"}, {otherArgs, "@put()"}}
}

// flawedStatements: likewise of statements, behind a local p.
func flawedStatements() []flawedCode {
	return []flawedCode{{takenName, "@var p = 1;"}, {noName, "@x = 1;"}, {notArray, "@g[0] = 1;"}, {notArray, "@p[0] = 1;"}, {noName, "return @x;"}, {notArray, "@g[0];"}, {notArray, "if (@size(p)) { }"}, {noName, "while (1) { @nobody(); }"}, {otherArgs, "if (1) { } else { @get(1); }"}, {otherArgs, "put(-@f1());"}}
}

func unmarked(s string) string { return strings.ReplaceAll(s, "@", "") }

// Of two statements with a fault, the one ahead is told, wherever both lie.
func TestCheckTellsTheFirstStatement(t *testing.T) {
	for _, a := range flawedStatements() {
		for _, b := range flawedStatements() {
			later := unmarked(b.s)
			for _, s := range []string{a.s + " " + later, "if (1) { " + a.s + " } " + later, "if (1) { " + a.s + " } else { " + later + " }", "if (1) { } else { " + a.s + " } " + later, "while (1) { " + a.s + " " + later + " } " + later, a.s + " if (1) { " + later + " }", "1; " + a.s + " while (1) { } " + later} {
				wantMainCheck(t, a.code, useHeads, "var p = 1; "+s)
			}
			// Function by function, as they stand in the program.
			wantCheck(t, a.code, useHeads+"func k(p) { "+a.s+" } func main() { var p = 1; "+later+" }")
			wantCheck(t, a.code, "func main() { var p = 1; "+a.s+" } func k(p) { "+later+" } "+useHeads)
			wantCheck(t, a.code, useHeads+"func main() { } func k(p) { "+a.s+" } func l(p) { "+later+" }")
			// A param that comes twice is met ahead of all of its function, behind all of those ahead.
			wantCheck(t, takenName, useHeads+"func k(p, p) { "+unmarked(a.s)+" } func main() { }")
			wantCheck(t, a.code, useHeads+"func main() { var p = 1; "+a.s+" } func k(p, p) { "+later+" }")
			wantCheck(t, takenName, "func k(p, p) { } func main() { var p = 1; "+unmarked(a.s)+" } "+useHeads)
		}
	}
}

// A node is asked ahead of what lies in it, but an NVar's name behind it; of several kids the first comes first.
func TestCheckTellsTheFirstNode(t *testing.T) {
	for _, a := range flawedExpressions() {
		own := unmarked(a.s)
		for _, s := range []string{"var p = #;", "var p = 1 + #;", "if (#) { var p = 1; }", "while (#) { x = 1; }", "return #;", "g = #;", "b[#] = 1;", "b[0] = #;", "f1(#);"} {
			wantMainCheck(t, a.code, useHeads, "var p = 1; "+strings.Replace(s, "#", a.s, 1))
		}
		for s, code := range map[string]int{"@x = #;": noName, "@f0 = #;": noName, "@a = #;": noName, "@g[#] = 1;": notArray, "@x[1] = #;": notArray, "return @g[#];": notArray, "return @p[#];": notArray, "@size(-#);": notArray, "@size(1 + #);": notArray, "@nobody(#);": noName, "@p(1, #);": noName, "@f0(#);": otherArgs, "@f3(1, #);": otherArgs, "@get(#);": otherArgs, "@put(1, #);": otherArgs, "@size(1, #);": otherArgs} {
			wantMainCheck(t, code, useHeads, "var p = 1; "+strings.Replace(s, "#", own, 1))
		}
		for _, b := range flawedExpressions() {
			later := unmarked(b.s)
			for _, s := range []string{"# + %;", "-# || %;", "f2(#, %);", "f3(1, #, %);", "b[#] = %;", "b[#] + %;", "if (#) { %; }", "if (#) { } else { %; }", "while (#) { %; }", "1 + # + %;", "1 * (# + %);", "f1(#) + f1(%);", "put(#); put(%);", "var v = #; var v = %;", "g = #; g = %;"} {
				wantMainCheck(t, a.code, useHeads, strings.Replace(strings.Replace(s, "%", later, 1), "#", a.s, 1))
			}
			// The sign between two kids stands behind the first in the text, its node ahead of both.
			wantMainCheck(t, a.code, useHeads, "return 1 + "+a.s+" * "+later+";")
		}
	}
	wantMainCheck(t, noName, useHeads, "1 * (@x + y);")
}

// Nodes count in their order, not by At.
func TestCheckTellsByNodesNotByPlaces(t *testing.T) {
	p := sourceOf(t, useHeads+"func main() { var p = 1; x = y; var p = z; nobody(w); } func k(q, q) { }")
	for k := range p.Nodes {
		p.Nodes[k].At = 900 - k
	}
	want := []int{noName, noName, noName, takenName, noName, noName, takenName}
	for _, code := range want {
		gotCode, at := wantCheckOf(p)
		if gotCode != code {
			t.Fatalf("the next fault has code %d, not %d", gotCode, code)
		}
		wantCheckAt(t, "places that fall", p, code, at)
		for k := range p.Nodes {
			if p.Nodes[k].At != at {
				continue
			}
			// The fault is mended, so that the next one is met.
			switch p.Nodes[k].S {
			case "p":
				p.Nodes[k].S = "v"
			case "nobody":
				p.Nodes[k].S = "f1"
			default:
				p.Nodes[k].S = "g"
			}
		}
	}
}

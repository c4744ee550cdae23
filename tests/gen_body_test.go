package tests

import (
	"strings"
	"testing"

	"loop.example/g00472/impl"
)

// genHeads, genTail: what stands ahead of and behind a `main` in the tests of
// bodies: global 1 is g, 2 is h; a lies at 0, b at 12, c at 20; function 2 is id,
// 3 is main, 4 is two, 5 is none.
const (
	genHeads = "int g; int h; int a[3]; int b[2]; int c[7]; func id(x) { return x; } "
	genTail  = " func two(x, y) { return x - y; } func none() { }"
)

// cellCode: the index, and what asks whether it is within size; spare is the number of the last local.
func cellCode(index, spare, size string) string {
	return index + ";local.tee " + spare + ";i32.const " + size + ";i32.ge_u;if 0;i32.const 6;global.set 0;unreachable;end;local.get " + spare + ";i32.const 2;i32.shl"
}

// wantFunction: the number of locals that aren't params, and the body, of the function with that number.
func wantFunction(t *testing.T, s string, fn, locals int, body string) {
	t.Helper()
	p := sourceOf(t, s)
	wantAsGenerated(t, s, p)
	m, ok := impl.Gen(p)
	if !ok || fn >= len(m.Funcs) {
		t.Errorf("Gen is %v, of %s", ok, s)
		return
	}
	f := m.Funcs[fn]
	if got := impl.BodyText(f.Body); got != body || f.Locals != locals || f.Sig != len(p.Fns[fn].Params) {
		t.Errorf("function %d has Sig %d, %d locals and the body\n%s, not %d locals and\n%s, of %s", fn, f.Sig, f.Locals, got, locals, body, s)
	}
}

// wantMainBody: likewise of the statements in a `main`, whose body ends with an OpConst 0 behind what is told.
func wantMainBody(t *testing.T, statements, body string) {
	t.Helper()
	locals := 1 + strings.Count(statements, "var ")
	wantFunction(t, genHeads+"func main() { "+statements+" }"+genTail, 1, locals, joined(body, "i32.const 0"))
}

// wantMainCode: likewise of an expression that is let go.
func wantMainCode(t *testing.T, expression, code string) {
	t.Helper()
	wantMainBody(t, expression+";", code+";drop")
}

func TestBodiesOfStatements(t *testing.T) {
	for _, c := range [][2]string{
		{"", ""},
		{"5;", "i32.const 5;drop"},
		{"return 5;", "i32.const 5;return"},
		{"return 5; return 6;", "i32.const 5;return;i32.const 6;return"},
		{"return 5; g = 1; 7; if (g) { }", "i32.const 5;return;i32.const 1;global.set 1;i32.const 7;drop;global.get 1;if 0;end"},
		{"var x = 5;", "i32.const 5;local.set 0"},
		{"var x = 5; x = 6; return x;", "i32.const 5;local.set 0;i32.const 6;local.set 0;local.get 0;return"},
		{"var x = 5; var y = x; x = y;", "i32.const 5;local.set 0;local.get 0;local.set 1;local.get 1;local.set 0"},
		{"g = 5;", "i32.const 5;global.set 1"},
		{"h = g;", "global.get 1;global.set 2"},
		{"a[1] = 5;", cellCode("i32.const 1", "0", "3") + ";i32.const 5;i32.store 0 2"},
		{"b[g] = h;", cellCode("global.get 1", "0", "2") + ";global.get 2;i32.store 12 2"},
		{"c[6] = 1;", cellCode("i32.const 6", "0", "7") + ";i32.const 1;i32.store 20 2"},
		{"if (g) { }", "global.get 1;if 0;end"},
		{"if (g) { } else { }", "global.get 1;if 0;else;end"},
		{"if (g) { h = 1; }", "global.get 1;if 0;i32.const 1;global.set 2;end"},
		{"if (g) { h = 1; } else { h = 2; }", "global.get 1;if 0;i32.const 1;global.set 2;else;i32.const 2;global.set 2;end"},
		{"if (g) { } else { h = 2; }", "global.get 1;if 0;else;i32.const 2;global.set 2;end"},
		{"if (g) { return 1; } return 2;", "global.get 1;if 0;i32.const 1;return;end;i32.const 2;return"},
		{"if (g) { return 1; } else { return 2; }", "global.get 1;if 0;i32.const 1;return;else;i32.const 2;return;end"},
		{"if (g) { if (h) { 1; } else { 2; } } else { if (g) { 3; } }", "global.get 1;if 0;global.get 2;if 0;i32.const 1;drop;else;i32.const 2;drop;end;else;global.get 1;if 0;i32.const 3;drop;end;end"},
		{"while (g) { }", "block 0;loop 0;global.get 1;i32.eqz;br_if 1;br 0;end;end"},
		{"while (g) { g = h; }", "block 0;loop 0;global.get 1;i32.eqz;br_if 1;global.get 2;global.set 1;br 0;end;end"},
		{"while (1) { return 3; }", "block 0;loop 0;i32.const 1;i32.eqz;br_if 1;i32.const 3;return;br 0;end;end"},
		{"while (g) { while (h) { 1; } 2; }", "block 0;loop 0;global.get 1;i32.eqz;br_if 1;block 0;loop 0;global.get 2;i32.eqz;br_if 1;i32.const 1;drop;br 0;end;end;i32.const 2;drop;br 0;end;end"},
		{"while (g) { if (h) { return 1; } }", "block 0;loop 0;global.get 1;i32.eqz;br_if 1;global.get 2;if 0;i32.const 1;return;end;br 0;end;end"},
		{"if (g) { while (h) { var x = 1; } }", "global.get 1;if 0;block 0;loop 0;global.get 2;i32.eqz;br_if 1;i32.const 1;local.set 0;br 0;end;end;end"},
	} {
		wantMainBody(t, c[0], c[1])
	}
}

func TestBodiesOfExpressions(t *testing.T) {
	for _, c := range [][2]string{
		{"5", "i32.const 5"},
		{"0", "i32.const 0"},
		{"2147483647", "i32.const 2147483647"},
		{"g", "global.get 1"},
		{"h", "global.get 2"},
		{"a[2]", cellCode("i32.const 2", "0", "3") + ";i32.load 0 2"},
		{"b[2]", cellCode("i32.const 2", "0", "2") + ";i32.load 12 2"},
		{"c[g + 1]", cellCode("global.get 1;i32.const 1;i32.add", "0", "7") + ";i32.load 20 2"},
		{"get()", "call 0"},
		{"put(65)", "i32.const 65;call 1;i32.const 0"},
		{"put(get())", "call 0;call 1;i32.const 0"},
		{"put(put(g))", "global.get 1;call 1;i32.const 0;call 1;i32.const 0"},
		{"size(a)", "i32.const 3"},
		{"size(b)", "i32.const 2"},
		{"size(c)", "i32.const 7"},
		{"none()", "call 5"},
		{"main()", "call 3"},
		{"id(4)", "i32.const 4;call 2"},
		{"two(1, g)", "i32.const 1;global.get 1;call 4"},
		{"two(id(1), two(2, none()))", "i32.const 1;call 2;i32.const 2;call 5;call 4;call 4"},
		{"two(size(b), put(1))", "i32.const 2;i32.const 1;call 1;i32.const 0;call 4"},
		{"-g", "i32.const 0;global.get 1;i32.sub"},
		{"-5", "i32.const 0;i32.const 5;i32.sub"},
		{"!g", "global.get 1;i32.eqz"},
		{"~g", "global.get 1;i32.const -1;i32.xor"},
		{"- - g", "i32.const 0;i32.const 0;global.get 1;i32.sub;i32.sub"},
		{"!!g", "global.get 1;i32.eqz;i32.eqz"},
		{"~~g", "global.get 1;i32.const -1;i32.xor;i32.const -1;i32.xor"},
		{"-!~g", "i32.const 0;global.get 1;i32.const -1;i32.xor;i32.eqz;i32.sub"},
		{"1 + 2 * 3", "i32.const 1;i32.const 2;i32.const 3;i32.mul;i32.add"},
		{"(1 + 2) * 3", "i32.const 1;i32.const 2;i32.add;i32.const 3;i32.mul"},
		{"1 - 2 - 3", "i32.const 1;i32.const 2;i32.sub;i32.const 3;i32.sub"},
		{"-(g - -h)", "i32.const 0;global.get 1;i32.const 0;global.get 2;i32.sub;i32.sub;i32.sub"},
	} {
		wantMainCode(t, c[0], c[1])
	}
}

// Each sign between two values has the operation that does the same.
func TestBodiesOfSigns(t *testing.T) {
	for _, c := range [][2]string{
		{"==", "eq"}, {"!=", "ne"}, {"<", "lt_s"}, {">", "gt_s"}, {"<=", "le_s"}, {">=", "ge_s"},
		{"|", "or"}, {"^", "xor"}, {"&", "and"}, {"<<", "shl"}, {">>", "shr_s"},
		{"+", "add"}, {"-", "sub"}, {"*", "mul"}, {"/", "div_s"}, {"%", "rem_s"},
	} {
		wantMainCode(t, "g "+c[0]+" h", "global.get 1;global.get 2;i32."+c[1])
		wantMainCode(t, "7 "+c[0]+" get()", "i32.const 7;call 0;i32."+c[1])
		wantMainCode(t, "(g "+c[0]+" h) "+c[0]+" (h "+c[0]+" g)", "global.get 1;global.get 2;i32."+c[1]+";global.get 2;global.get 1;i32."+c[1]+";i32."+c[1])
	}
}

// `&&` and `||` choose whether the second is done, one within another too.
func TestBodiesOfSignsThatDecide(t *testing.T) {
	const and, or = ";i32.eqz;i32.eqz;else;i32.const 0;end", ";i32.eqz;i32.eqz;end"
	for _, c := range [][2]string{
		{"g && h", "global.get 1;if 1;global.get 2" + and},
		{"g || h", "global.get 1;if 1;i32.const 1;else;global.get 2" + or},
		{"g && h && 5", "global.get 1;if 1;global.get 2" + and + ";if 1;i32.const 5" + and},
		{"g && (h && 5)", "global.get 1;if 1;global.get 2;if 1;i32.const 5" + and + and},
		{"g || h || 5", "global.get 1;if 1;i32.const 1;else;global.get 2" + or + ";if 1;i32.const 1;else;i32.const 5" + or},
		{"g || (h || 5)", "global.get 1;if 1;i32.const 1;else;global.get 2;if 1;i32.const 1;else;i32.const 5" + or + or},
		{"g && h || 5", "global.get 1;if 1;global.get 2" + and + ";if 1;i32.const 1;else;i32.const 5" + or},
		{"g || h && 5", "global.get 1;if 1;i32.const 1;else;global.get 2;if 1;i32.const 5" + and + or},
		{"!(g && h)", "global.get 1;if 1;global.get 2" + and + ";i32.eqz"},
		{"(g || h) + (g && h)", "global.get 1;if 1;i32.const 1;else;global.get 2" + or + ";global.get 1;if 1;global.get 2" + and + ";i32.add"},
		{"g && a[h]", "global.get 1;if 1;" + cellCode("global.get 2", "0", "3") + ";i32.load 0 2" + and},
	} {
		wantMainCode(t, c[0], c[1])
	}
}

// Cells within an index and within what is put into a cell; all have the same last local.
func TestBodiesOfCellsWithinCells(t *testing.T) {
	inner := cellCode("global.get 1", "0", "2") + ";i32.load 12 2"
	wantMainCode(t, "a[b[g]]", cellCode(inner, "0", "3")+";i32.load 0 2")
	wantMainCode(t, "c[a[b[g]]]", cellCode(cellCode(inner, "0", "3")+";i32.load 0 2", "0", "7")+";i32.load 20 2")
	wantMainBody(t, "a[b[g]] = b[g];", cellCode(inner, "0", "3")+";"+inner+";i32.store 0 2")
	wantMainCode(t, "b[g] + b[g]", inner+";"+inner+";i32.add")
	wantMainCode(t, "a[g && h]", cellCode("global.get 1;if 1;global.get 2;i32.eqz;i32.eqz;else;i32.const 0;end", "0", "3")+";i32.load 0 2")
	wantMainCode(t, "a[id(get())]", cellCode("call 0;call 2", "0", "3")+";i32.load 0 2")
	wantMainBody(t, "var x = 1; var y = a[x]; a[y] = x;", "i32.const 1;local.set 0;"+cellCode("local.get 0", "2", "3")+";i32.load 0 2;local.set 1;"+cellCode("local.get 1", "2", "3")+";local.get 0;i32.store 0 2")
}

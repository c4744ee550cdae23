package tests

import (
	"strings"
	"testing"

	"loop.example/g00472/impl"
)

// Locals: the params in order, then what var names in order, then the one more.
func TestLocalsOfFunctions(t *testing.T) {
	wantFunction(t, "func main() { }", 0, 1, "i32.const 0")
	wantFunction(t, "func main() { var x = 1; }", 0, 2, "i32.const 1;local.set 0;i32.const 0")
	wantFunction(t, "func f(x) { } func main() { }", 0, 1, "i32.const 0")
	wantFunction(t, "func f(x, y, z) { return z; } func main() { }", 0, 1, "local.get 2;return;i32.const 0")
	wantFunction(t, "func f(x, y) { var z = y; x = z; y = x; } func main() { }", 0, 2, "local.get 1;local.set 2;local.get 2;local.set 0;local.get 0;local.set 1;i32.const 0")
	wantFunction(t, "func main() { } func f(x) { if (x) { var y = x; } else { var z = y; } while (z) { var w = z; } }", 1, 4,
		"local.get 0;if 0;local.get 0;local.set 1;else;local.get 1;local.set 2;end;block 0;loop 0;local.get 2;i32.eqz;br_if 1;local.get 2;local.set 3;br 0;end;end;i32.const 0")
	wantFunction(t, "int a[4]; func f(x) { return a[x]; } func main() { }", 0, 1, cellCode("local.get 0", "1", "4")+";i32.load 0 2;return;i32.const 0")
	wantFunction(t, "int a[4]; func f(x, y) { var z = 1; a[z] = y; } func main() { }", 0, 2, "i32.const 1;local.set 2;"+cellCode("local.get 2", "3", "4")+";local.get 1;i32.store 0 2;i32.const 0")
	// A cell ahead of all vars has the last local too.
	wantFunction(t, "int a[4]; func main() { a[0] = 1; var x = 2; var y = 3; }", 0, 3, cellCode("i32.const 0", "2", "4")+";i32.const 1;i32.store 0 2;i32.const 2;local.set 0;i32.const 3;local.set 1;i32.const 0")
	wantFunction(t, "func main() { return 1; var x = 2; return x; }", 0, 2, "i32.const 1;return;i32.const 2;local.set 0;local.get 0;return;i32.const 0")
}

// What a name stands for hangs on the place: ahead of the var the global, behind it the local.
func TestNamesOfBoth(t *testing.T) {
	wantMainBody(t, "g = 1; g; var g = g; g = 2; g;", "i32.const 1;global.set 1;global.get 1;drop;global.get 1;local.set 0;i32.const 2;local.set 0;local.get 0;drop")
	wantMainBody(t, "h = 1; if (h) { var h = h + 1; h = 3; } h = 4;", "i32.const 1;global.set 2;global.get 2;if 0;global.get 2;i32.const 1;i32.add;local.set 0;i32.const 3;local.set 0;end;i32.const 4;local.set 0")
	wantMainBody(t, "while (g) { g = 1; var g = 2; g = 3; }", "block 0;loop 0;global.get 1;i32.eqz;br_if 1;i32.const 1;global.set 1;i32.const 2;local.set 0;i32.const 3;local.set 0;br 0;end;end")
	wantMainBody(t, "if (g) { var g = 1; } else { g = 2; }", "global.get 1;if 0;i32.const 1;local.set 0;else;i32.const 2;local.set 0;end")
	// In another function the name stands for the global still.
	const both = "int g; func f(g) { g = g; return g; } func main() { g = g; var g = 1; g = g; } func k() { g = 5; return g; }"
	wantFunction(t, both, 0, 1, "local.get 0;local.set 0;local.get 0;return;i32.const 0")
	wantFunction(t, both, 1, 2, "global.get 1;global.set 1;i32.const 1;local.set 0;local.get 0;local.set 0;i32.const 0")
	wantFunction(t, both, 2, 1, "i32.const 5;global.set 1;global.get 1;return;i32.const 0")
}

// A local may have the name of an array or of a function; functions are called all the same.
func TestNamesOfLocalsThatHide(t *testing.T) {
	wantMainBody(t, "a[0]; var a = a[1]; a = a;", cellCode("i32.const 0", "1", "3")+";i32.load 0 2;drop;"+cellCode("i32.const 1", "1", "3")+";i32.load 0 2;local.set 0;local.get 0;local.set 0")
	wantMainBody(t, "var b = size(b); b;", "i32.const 2;local.set 0;local.get 0;drop")
	wantMainBody(t, "var none = none(); none = none() + none;", "call 5;local.set 0;call 5;local.get 0;i32.add;local.set 0")
	wantMainBody(t, "var get = get(); var put = put(get); put(put);", "call 0;local.set 0;local.get 0;call 1;i32.const 0;local.set 1;local.get 1;call 1;i32.const 0;drop")
	wantMainBody(t, "var size = 1; size(a) + size;", "i32.const 1;local.set 0;i32.const 3;local.get 0;i32.add;drop")
	wantMainBody(t, "var main = 4; main();", "i32.const 4;local.set 0;call 3;drop")
}

// Functions are called by their number behind the two imports, wherever they stand.
func TestCallsOfFunctions(t *testing.T) {
	const s = "func f(x) { f(x); return g(1, f(2)); } func main() { f(main()); h(); } func g(x, y) { h(); return g(x, y); } func h() { return f(3); }"
	wantFunction(t, s, 0, 1, "local.get 0;call 2;drop;i32.const 1;i32.const 2;call 2;call 4;return;i32.const 0")
	wantFunction(t, s, 1, 1, "call 3;call 2;drop;call 5;drop;i32.const 0")
	wantFunction(t, s, 2, 1, "call 5;drop;local.get 0;local.get 1;call 4;return;i32.const 0")
	wantFunction(t, s, 3, 1, "i32.const 3;call 2;return;i32.const 0")
	args := "i32.const 0;local.get 0;i32.sub;call 0;i32.const 7"
	wantFunction(t, "func f(x, y, z) { return f(-x, get(), 7); } func main() { }", 0, 1, args+";call 2;return;i32.const 0")
	// One that is called by many, each in its place.
	many := "func main() { " + eachAs(counted("f", 39), "*(); ") + "} " + eachAs(counted("f", 39), "func *() { } ")
	var calls []string
	for k := range 39 {
		calls = append(calls, "call "+impl.NumText(3+k)+";drop")
	}
	wantFunction(t, many, 0, 1, strings.Join(calls, ";")+";i32.const 0")
}

// Arrays lie one behind the other, four bytes a cell.
func TestPlacesOfArrays(t *testing.T) {
	const s = "int a[1]; int b[7999]; func main() { return b[0] + a[0]; }"
	wantFunction(t, s, 0, 1, cellCode("i32.const 0", "0", "7999")+";i32.load 4 2;"+cellCode("i32.const 0", "0", "1")+";i32.load 0 2;i32.add;return;i32.const 0")
	wantFunction(t, "int b[7999]; int a[1]; func main() { a[size(b)] = 1; }", 0, 1, cellCode("i32.const 7999", "0", "1")+";i32.const 1;i32.store 31996 2;i32.const 0")
	wantFunction(t, "int a[8000]; func main() { a[0]; }", 0, 1, cellCode("i32.const 0", "0", "8000")+";i32.load 0 2;drop;i32.const 0")
	for k, size := range []string{"3", "1", "10", "2"} {
		name := string(rune('a' + k))
		place := []string{"0", "12", "16", "56"}[k]
		wantFunction(t, "int g; int a[3]; int b[1]; int h; int c[10]; int d[2]; func main() { "+name+"[h] = "+name+"[g]; }", 0, 1,
			cellCode("global.get 2", "0", size)+";"+cellCode("global.get 1", "0", size)+";i32.load "+place+" 2;i32.store "+place+" 2;i32.const 0")
	}
}

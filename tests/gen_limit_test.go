package tests

import (
	"strings"
	"testing"

	"loop.example/g00472/impl"
)

// noModule: Compile's code where Gen says false.
const noModule = 30

// statementsOf: statements whose code has so many instructions; at least 12.
func statementsOf(size int) string {
	// A cell that is let go has 14 instructions, a number 2, its `!` one more.
	cells := (size - 12) / 14
	rest := size - 14*cells
	odd := rest % 2
	return strings.Repeat("a[0]; ", cells) + strings.Repeat("!1; ", odd) + strings.Repeat("1; ", (rest-3*odd)/2)
}

// wantGenerated: whether there is a module of the text, which has no other fault; Compile has its code, and 30 if not.
func wantGenerated(t *testing.T, s string, want bool) impl.Module {
	t.Helper()
	p := sourceOf(t, s)
	if code, at := impl.Check(p); code != 0 {
		t.Fatalf("Check is %d, %d, of %.200s", code, at, s)
	}
	wantAsGenerated(t, s, p)
	m, ok := impl.Gen(p)
	if ok != want || !want && !alike(m, impl.Module{}) {
		t.Errorf("Gen is %s, %v, not %v, of %.200s", modulesText(m), ok, want, s)
	}
	b, code, at := impl.Compile(s)
	if want != (code == 0) || want != (len(b) > 0) || code != noModule*one(!want) || at != 0 {
		t.Errorf("Compile is %d bytes, code %d and place %d, of %.200s", len(b), code, at, s)
	}
	return m
}

// A body has at most MaxBody instructions, the OpConst 0 at its end among them.
func TestBodiesOfAsManyInstructionsAsGo(t *testing.T) {
	heads := "int a[1]; "
	for _, c := range []struct {
		size int
		want bool
	}{{100, true}, {1498, true}, {1499, true}, {1500, true}, {1501, false}, {1502, false}, {1503, false}, {2000, false}} {
		body := "{ " + statementsOf(c.size-1) + "} "
		for fn, s := range []string{
			heads + "func main() " + body,
			heads + "func main() { f(); } func f() " + body,
			heads + "func g() { } func main() { } func f(x) " + body,
		} {
			m := wantGenerated(t, s, c.want)
			if c.want && len(m.Funcs[fn].Body) != c.size {
				t.Errorf("the body has %d instructions, not %d", len(m.Funcs[fn].Body), c.size)
			}
		}
	}
	const most = 1499
	full := "func *() { " + statementsOf(most) + "} "
	wantGenerated(t, heads+eachAs([]string{"main", "f"}, full), true)
	wantGenerated(t, heads+eachAs([]string{"f", "main"}, full)+"func g() { }", true)
	wantGenerated(t, heads+eachAs([]string{"f"}, full)+"func main() { "+statementsOf(most+1)+"}", false)
	wantGenerated(t, heads+"func f() { "+statementsOf(most+1)+"} "+eachAs([]string{"main"}, full), false)
}

// What each part takes: a body that is just full, and what makes it too long.
func TestBodiesThatAreJustTooLong(t *testing.T) {
	const heads = "int g; int a[1]; func f(x) { } "
	for _, c := range []struct {
		s    string
		size int
	}{
		{"1;", 2}, {"g = 1;", 2}, {"var x = 1;", 2}, {"return 1;", 2}, {"get();", 2}, {"size(a);", 2}, {"main();", 2},
		{"!1;", 3}, {"f(1);", 3}, {"if (1) { }", 3}, {"if (1) { } else { }", 4}, {"put(1);", 4}, {"-1;", 4}, {"~1;", 4}, {"1 + 1;", 4}, {"1 << 1;", 4},
		{"while (1) { }", 8}, {"1 && 1;", 9}, {"1 || 1;", 9}, {"a[0];", 14}, {"a[0] = 1;", 14}, {"if (1) { 1; }", 5}, {"if (1) { 1; } else { 1; }", 8}, {"while (1) { 1; }", 10},
	} {
		wantGenerated(t, heads+"func main() { "+statementsOf(1499-c.size)+c.s+" }", true)
		wantGenerated(t, heads+"func main() { "+c.s+statementsOf(1499-c.size)+" }", true)
		wantGenerated(t, heads+"func main() { "+statementsOf(1500-c.size)+c.s+" }", false)
		wantGenerated(t, heads+"func main() { "+c.s+statementsOf(1500-c.size)+" }", false)
	}
}

// A program may have functions of 40 params, but a module only 30 Sigs.
func TestModulesOfTooManySigs(t *testing.T) {
	for count := 26; count <= 40; count++ {
		f := "func f(" + strings.Join(counted("x", count), ", ") + ") { return x1; } "
		wantGenerated(t, f+"func main() { }", count <= 28)
		wantGenerated(t, "func main() { "+"f("+argsText(count)+"); } "+f, count <= 28)
		wantGenerated(t, "func main() { } "+f+strings.Replace(f, "f(", "g(", 1), count <= 28)
	}
}

// A program with a code has no module.
func TestGenOfProgramsWithFaults(t *testing.T) {
	ask := func(what string, p impl.Source) {
		if m, ok := impl.Gen(p); ok || !alike(m, impl.Module{}) {
			t.Errorf("Gen is %s, %v, though there is a fault, of %.200s", modulesText(m), ok, what)
		}
		wantAsGenerated(t, what, p)
	}
	for _, l := range codedTexts() {
		for _, s := range l {
			ask(s, sourceOf(t, s))
		}
	}
	for _, p := range append(noPrograms(t), impl.Source{}, impl.Source{Arrays: []impl.Array{{Name: "a", Size: 2}}}) {
		ask(short(p), p)
	}
}

package tests

import (
	"math"
	"reflect"
	"slices"
	"strconv"
	"strings"
	"testing"

	"loop.example/g00472/impl"
)

// The codes of Check, as the chapter numbers them.
const (
	noProgram = 20
	takenName = 21
	noName    = 22
	otherArgs = 23
	notArray  = 24
	noMain    = 25
	tooMuch   = 26
)

// sourceOf: the program of a text, which has to be one.
func sourceOf(t *testing.T, s string) impl.Source {
	t.Helper()
	p, code, at := impl.Parse(s)
	if code != 0 {
		t.Fatalf("Parse(%.200q) has code %d and place %d", s, code, at)
	}
	return p
}

// wantCheckAt: Check tells that code and that place of p, and so do the tests' own rules; where
// there is a code the other functions tell nothing of p.
func wantCheckAt(t *testing.T, what string, p impl.Source, code, at int) {
	t.Helper()
	if gotCode, gotAt := impl.Check(p); gotCode != code || gotAt != at {
		t.Errorf("Check of %.200q is %d, %d, not %d, %d", what, gotCode, gotAt, code, at)
	}
	if ownCode, ownAt := wantCheckOf(p); ownCode != code || ownAt != at {
		t.Errorf("the tests' own rules tell %d, %d of %.200q, not %d, %d", ownCode, ownAt, what, code, at)
	}
	if code == 0 {
		wantTellsAsModel(t, what, p)
	} else {
		wantTellsNothing(t, what, p)
	}
}

// wantCheck: Check tells the code of the text, and the place at which it has a '@'; 0 where it has none.
func wantCheck(t *testing.T, code int, marked string) {
	t.Helper()
	ahead, _, is := strings.Cut(marked, "@")
	wantCheckAt(t, marked, sourceOf(t, strings.ReplaceAll(marked, "@", "")), code, one(is)*len(ahead))
}

// wantMainCheck: likewise of the statements in a `main` of their own, behind those heads.
func wantMainCheck(t *testing.T, code int, heads, statements string) {
	t.Helper()
	wantCheck(t, code, heads+" func main() { "+statements+" }")
}

// wantAsChecked: Check tells what the tests' own rules do.
func wantAsChecked(t *testing.T, what string, p impl.Source) int {
	t.Helper()
	code, at := wantCheckOf(p)
	if gotCode, gotAt := impl.Check(p); gotCode != code || gotAt != at {
		t.Errorf("Check of %s, %.300q, is %d, %d, not %d, %d", what, impl.PrintSource(p), gotCode, gotAt, code, at)
	}
	return code
}

// noFns: numbers that are no function's.
func noFns(p impl.Source) []int {
	count := len(p.Fns)
	return []int{-1, count, count + 1, -count - 1, 1 << 32, -1 << 32, math.MaxInt, math.MinInt}
}

// wantTellsAsModel: LocalsOf, Place, Calls and Reached tell of p, which has no fault, what the tests' own rules do.
func wantTellsAsModel(t *testing.T, what string, p impl.Source) {
	t.Helper()
	for fn := range p.Fns {
		if got, want := impl.LocalsOf(p, fn), wantLocalsOf(p, fn); !slices.Equal(got, want) {
			t.Errorf("LocalsOf(%.200q, %d) is %q, not %q", what, fn, got, want)
		}
		if got, want := impl.Calls(p, fn), wantCallsOf(p, fn); !slices.Equal(got, want) {
			t.Errorf("Calls(%.200q, %d) is %v, not %v", what, fn, got, want)
		}
	}
	for _, fn := range noFns(p) {
		if locals, calls := impl.LocalsOf(p, fn), impl.Calls(p, fn); len(locals) != 0 || len(calls) != 0 {
			t.Errorf("of %.200q and function %d LocalsOf is %q, Calls %v", what, fn, locals, calls)
		}
	}
	for _, name := range append(sharedNames(p), "", "nobody", "main", "x", " a", "A") {
		if got, want := impl.Place(p, name), wantPlaceOf(p, name); got != want {
			t.Errorf("Place(%.200q, %q) is %d, not %d", what, name, got, want)
		}
	}
	if got, want := impl.Reached(p), wantReachedOf(p); !slices.Equal(got, want) {
		t.Errorf("Reached(%.200q) is %v, not %v", what, got, want)
	}
}

// wantTellsNothing: LocalsOf, Place, Calls and Reached tell nothing of p, which has a fault.
func wantTellsNothing(t *testing.T, what string, p impl.Source) {
	t.Helper()
	fns := append(noFns(p), 0)
	for fn := range p.Fns {
		fns = append(fns, fn)
	}
	for _, fn := range fns {
		if locals, calls := impl.LocalsOf(p, fn), impl.Calls(p, fn); len(locals) != 0 || len(calls) != 0 {
			t.Errorf("of %.200q, which has a fault, and function %d LocalsOf is %q, Calls %v", what, fn, locals, calls)
		}
	}
	for _, name := range append(sharedNames(p), "", "a") {
		if got := impl.Place(p, name); got != -1 {
			t.Errorf("Place(%.200q, %q) is %d, though there is a fault", what, name, got)
		}
	}
	if got := impl.Reached(p); len(got) != 0 {
		t.Errorf("Reached(%.200q) is %v, though there is a fault", what, got)
	}
}

// counted: the names from 0 on, each with its number behind it.
func counted(name string, count int) []string {
	var l []string
	for k := range count {
		l = append(l, name+strconv.Itoa(k))
	}
	return l
}

// eachAs: for each of the names the text with it in the place of '*', one behind the other.
func eachAs(names []string, text string) string {
	var b strings.Builder
	for _, name := range names {
		b.WriteString(strings.ReplaceAll(text, "*", name))
	}
	return b.String()
}

// allOfCheck: what each function of chapter 10 tells of p.
func allOfCheck(p impl.Source) []any {
	code, at := impl.Check(p)
	l := []any{code, at, nilIfEmpty(impl.Reached(p))}
	for fn := -1; fn <= len(p.Fns); fn++ {
		l = append(l, nilIfEmpty(impl.LocalsOf(p, fn)), nilIfEmpty(impl.Calls(p, fn)))
	}
	for _, name := range append(sharedNames(p), "", "nobody") {
		l = append(l, impl.Place(p, name))
	}
	return l
}

func sameTold(a, b []any) bool { return reflect.DeepEqual(a, b) }

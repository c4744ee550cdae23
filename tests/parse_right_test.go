package tests

import (
	"regexp"
	"testing"

	"loop.example/g00472/impl"
)

// kidSorts: for each kind of node which kids it may have, in order: e an expression, s a statement, b a block.
var kidSorts = map[int]*regexp.Regexp{
	impl.NNum:    regexp.MustCompile(`^$`),
	impl.NName:   regexp.MustCompile(`^$`),
	impl.NAt:     regexp.MustCompile(`^e$`),
	impl.NCall:   regexp.MustCompile(`^e*$`),
	impl.NUnary:  regexp.MustCompile(`^e$`),
	impl.NBinary: regexp.MustCompile(`^ee$`),
	impl.NSet:    regexp.MustCompile(`^e$`),
	impl.NPut:    regexp.MustCompile(`^ee$`),
	impl.NIf:     regexp.MustCompile(`^ebb?$`),
	impl.NWhile:  regexp.MustCompile(`^eb$`),
	impl.NReturn: regexp.MustCompile(`^e$`),
	impl.NDo:     regexp.MustCompile(`^e$`),
	impl.NVar:    regexp.MustCompile(`^e$`),
	impl.NBlock:  regexp.MustCompile(`^s*$`),
}

func (t tree) sort() string {
	switch {
	case isExpression(t.kind):
		return "e"
	case isStatement(t.kind):
		return "s"
	case t.kind == impl.NBlock:
		return "b"
	}
	return "?"
}

// sorted: each node in t has kids as its kind asks, and stands at no place below 0.
func (t tree) sorted() bool {
	sorts := ""
	for _, kid := range t.kids {
		sorts += kid.sort()
		if !kid.sorted() {
			return false
		}
	}
	asked := kidSorts[t.kind]
	return t.at >= 0 && asked != nil && asked.MatchString(sorts)
}

// hasText: there is a text of which p is read but for At: of that with as few parentheses
// as go the tests' own reader makes just p.
func hasText(p impl.Source) bool {
	bodies, right := bodiesOf(p)
	if !right || len(p.Nodes) > 800 {
		return false
	}
	for _, body := range bodies {
		if body.kind != impl.NBlock || !body.sorted() {
			return false
		}
	}
	w := &scribe{gap: blank, spare: never}
	w.program(p, bodies)
	if w.wrong {
		return false
	}
	if code, _ := textFault(w.toks, w.text.Len()); code != 0 {
		return false
	}
	return sameProgram(unplacedSource(wantTree(w.toks)), unplacedSource(p))
}

// wantFormOf: FormOk2 says so, and what else hangs on it.
func wantFormOf(t *testing.T, what string, p impl.Source, want bool) {
	t.Helper()
	if model := hasText(p); model != want {
		t.Errorf("%s: the tests' own reader says %v, not %v, of %s", what, model, want, short(p))
	}
	wantFormAsModel(t, what, p)
}

// wantFormAsModel: FormOk2 and what hangs on it is as the tests' own reader has it.
func wantFormAsModel(t *testing.T, what string, p impl.Source) bool {
	t.Helper()
	right := hasText(p)
	text, weight := "", 0
	if right {
		bodies, _ := bodiesOf(p)
		text, weight = fullText(p, bodies), len(p.Nodes)
	}
	if got := impl.FormOk2(p); got != right {
		t.Errorf("%s: FormOk2 is %v of %s", what, got, short(p))
	}
	if got := impl.PrintSource(p); got != text {
		t.Errorf("%s: PrintSource is %.200q, not %.200q", what, got, text)
	}
	if got := impl.Weight(p); got != weight {
		t.Errorf("%s: Weight is %d, not %d", what, got, weight)
	}
	if got := impl.SameSource(p, p); got != right {
		t.Errorf("%s: a program and itself are the same: %v", what, got)
	}
	return right
}

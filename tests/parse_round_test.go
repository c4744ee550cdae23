package tests

import (
	"testing"

	"loop.example/g00472/impl"
)

// ways of writing: what parts the words, and whether there are parentheses to spare.
type manner struct {
	name  string
	gap   func() string
	spare func() bool
}

func manners(next func(int) int) []manner {
	some := func() bool { return next(6) == 0 }
	return []manner{
		{"blanks", blank, never},
		{"no gaps", noGap, never},
		{"lines", func() string { return "\n" }, never},
		{"gaps", func() string { return gapsOf(next) }, never},
		{"spare parentheses", blank, some},
		{"some gaps and spare parentheses", func() string { return pick(next, []string{"", " ", "\t", "/**/", gapsOf(next)}) }, some},
	}
}

// manyPrograms calls do with programs of all sizes.
func manyPrograms(count int, do func(p impl.Source, bodies []tree)) {
	g := planner{spread()}
	for k := range count {
		p, bodies := g.program(1 + k%37)
		do(p, bodies)
		if k%8 == 0 {
			do(g.program(50 + k%300))
		}
	}
}

// What was written, in whatever manner, is read as the same program, with each At where it was laid down.
func TestProgramsAreReadAsTheyWereWritten(t *testing.T) {
	next := spread()
	right, deep := 0, 0
	manyPrograms(1500, func(p impl.Source, bodies []tree) {
		for _, m := range manners(next) {
			s, want := written(p, bodies, m.gap, m.spare)
			told := wantAsParsed(t, s)
			if told.code != 0 {
				deep++
				continue
			}
			right++
			if !sameProgram(told.p, want) {
				t.Errorf("with %s: Parse(%.300q) is %s, not %s", m.name, s, short(told.p), short(want))
			}
		}
	})
	if right < 5000 || deep < 20 {
		t.Errorf("%d texts are right, and %d are not", right, deep)
	}
}

// Parse reads what PrintSource wrote as the same program but for At, unless that lies too deep or is too long;
// PrintSource of what was read is the same text again.
func TestPrintedProgramsAreReadAgain(t *testing.T) {
	right, most := 0, 0
	manyPrograms(2500, func(p impl.Source, bodies []tree) {
		p = laid(p, bodies...)
		if !wantFormAsModel(t, "a program", p) {
			return
		}
		s := impl.PrintSource(p)
		told := wantAsParsed(t, s)
		if told.code == tooLongText || told.code == tooDeep {
			return
		}
		right++
		most = max(most, len(p.Nodes))
		if told.code != 0 || !sameProgram(unplacedSource(told.p), p) {
			t.Errorf("%s is written as %.300q, and read as %s", short(p), s, short(told))
		}
		if again := impl.PrintSource(told.p); again != s || !impl.SameSource(p, told.p) || !impl.SameSource(told.p, p) {
			t.Errorf("%.300q is read, and written as %.300q", s, again)
		}
	})
	if right < 2000 || most < 200 {
		t.Errorf("only %d programs, of up to %d nodes, were read again", right, most)
	}
}

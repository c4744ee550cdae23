package tests

import (
	"bytes"
	"testing"

	"loop.example/g00472/impl"
)

func TestModulesAreReadAsWritten(t *testing.T) {
	for k, m := range append(ownModules(), subsets()...) {
		b, ok := impl.ModuleBytes(m)
		if !ok {
			t.Fatalf("module %d has no bytes", k)
		}
		wantModuleOf(t, "module "+impl.NumText(k), b, m)
		back, _ := impl.ReadModule(b)
		if !impl.SameModule(m, back) {
			t.Errorf("module %d isn't the same when it is read", k)
		}
	}
}

// Each right number of each field is read as it was written.
func TestFieldsAreReadAsWritten(t *testing.T) {
	for _, f := range fieldCases() {
		for _, n := range append(ends(), f.least, f.least+1, f.most-1, f.most) {
			if n < f.least || n > f.most {
				continue
			}
			m := wholeModule()
			f.set(&m, n)
			b, _ := impl.ModuleBytes(m)
			wantModuleOf(t, f.what+" "+impl.NumText(n), b, m)
		}
	}
}

// wantOwnBytes: what was read has bytes of its own, which are no more and are read as the same.
func wantOwnBytes(t *testing.T, what string, b []byte) {
	t.Helper()
	m, code := impl.ReadModule(b)
	own, ok := impl.ModuleBytes(m)
	if code != 0 || !ok || len(own) > len(b) {
		t.Errorf("%s: code %d, then %d bytes of %d, %v", what, code, len(own), len(b), ok)
	}
	wantModuleOf(t, what, own, m)
}

// styles: all the ways of writing that a reader must take.
func styles() []style {
	split := func(n int) []int { return append(times(1, n), 0) }
	halved := func(n int) []int { return []int{0, n / 2, 0, 0, n - n/2} }
	var l []style
	for count := 1; count <= 5; count++ {
		for _, empty := range []bool{false, true} {
			s := atLeast(count)
			s.empty = empty
			l = append(l, s)
			s.locals = split
			l = append(l, s)
			s.locals = halved
			l = append(l, s)
		}
	}
	return l
}

func TestModulesInOtherBytes(t *testing.T) {
	for at, s := range styles() {
		for k, m := range ownModules()[:8] {
			what := "module " + impl.NumText(k) + " in style " + impl.NumText(at)
			wantModuleOf(t, what, s.module(m), m)
			wantOwnBytes(t, what, s.module(m))
		}
	}
}

// A section without parts is no other than none.
func TestSectionsWithoutParts(t *testing.T) {
	for _, number := range sectionOrder() {
		b := ofChunks(chunk{number, []byte{0}})
		wantModuleOf(t, "section "+impl.NumText(number), b, noMemory())
		wantOwnBytes(t, "section "+impl.NumText(number), b)
		wantCode(t, "no number of parts", ofChunks(chunk{number, nil}), 3)
		wantCode(t, "one too many", ofChunks(chunk{number, []byte{0, 0}}), 3)
	}
	all := shortest()
	all.empty = true
	wantModuleOf(t, "all of them", all.module(noMemory()), noMemory())
}

func TestLocalsInSeveralLists(t *testing.T) {
	for inside, want := range map[string]int{
		"\x00": 0, "\x80\x00": 0, "\x01\x00\x7f": 0, "\x01\x3c\x7f": 60, "\x02\x01\x7f\x02\x7f": 3, "\x03\x00\x7f\x05\x7f\x00\x7f": 5,
		"\x81\x80\x80\x80\x00\x87\x80\x80\x80\x00\x7f": 7, "\x02\x1e\x7f\x1e\x7f": 60,
	} {
		m := noMemory()
		m.Sigs, m.Funcs = []impl.Sig{{}}, []impl.Func{{Locals: want, Body: []impl.Ins{{Op: impl.OpNop}}}}
		code := append([]byte{1}, shortest().sized([]byte(inside+"\x01\x0b"))...)
		wantModuleOf(t, "Locals", ofChunks(with(chunks(m), 2, code)...), m)
	}
	for inside, want := range map[string]int{
		"\x02\x1e\x7f\x1f\x7f": 5, "\x01\x3d\x7f": 5, "\x02\xff\xff\xff\xff\x0f\x7f\x01\x7f": 5, "\x01\xff\xff\xff\xff\x0f\x7f": 5,
		"\x01\x02\x7e": 3, "\x02\x02\x7f": 3, "\x02\x02\x7f\x01\x40": 3, "\x00\x03": 3, "\x01": 3, "\xff\xff\xff\xff\x0f\x01\x7f": 3, "\x01\x80\x80\x80\x80\x10\x7f": 3,
	} {
		m := opsModule()
		m.Funcs = m.Funcs[2:]
		code := append([]byte{1}, shortest().sized([]byte(inside+"\x01\x0b"))...)
		wantCode(t, "Locals", ofChunks(with(chunks(m), 3, code)...), want)
	}
}

// Sections are told whatever is in them.
func TestSectionsAreTold(t *testing.T) {
	for k, m := range append(ownModules(), subsets()...) {
		var want []int
		for _, c := range chunks(m) {
			want = append(want, c.number)
		}
		b, _ := impl.ModuleBytes(m)
		wantNumbers(t, "module "+impl.NumText(k), b, want)
	}
	var junk []chunk
	for _, number := range sectionOrder() {
		junk = append(junk, chunk{number, bytes.Repeat([]byte{255}, number)})
	}
	wantNumbers(t, "code 3", ofChunks(junk...), sectionOrder())
	wantNumbers(t, "nothing in them", ofChunks(chunk{1, nil}, chunk{11, nil}), []int{1, 11})
	wantNumbers(t, "code 4", ofChunks(chunk{3, []byte{1, 0}}), []int{3})
	wantNumbers(t, "code 5", ofChunks(chunk{2, []byte{1, 0, 0, 0, 9}}, chunk{5, []byte{1, 0, 9}}), []int{2, 5})
	wantNumbers(t, "a length in more bytes", []byte(headBytes+"\x07\x83\x80\x80\x80\x00abc\x0b\x80\x00"), []int{7, 11})
}

func wantNumbers(t *testing.T, what string, b []byte, want []int) {
	t.Helper()
	l, ok := impl.Sections(b)
	same := len(l) == len(want)
	for k := 0; same && k < len(l); k++ {
		same = l[k] == want[k]
	}
	if !ok || !same {
		t.Errorf("%s: Sections are %v, %v, not %v", what, l, ok, want)
	}
}

func TestSectionsOfWrongBytes(t *testing.T) {
	b := shortest().module(wholeModule())
	for size := range len(b) {
		l, ok := impl.Sections(b[:size])
		_, code := wantModule(b[:size])
		if ok != (code != 1 && code != 2) || !ok && len(l) > 0 {
			t.Errorf("of the first %d bytes %v, %v", size, l, ok)
		}
	}
}

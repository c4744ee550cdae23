package tests

import (
	"slices"
	"strings"
	"testing"

	"loop.example/g00472/impl"
)

func TestCodeOfTheFirstEightBytes(t *testing.T) {
	for _, behind := range []string{"", "\x01\x01\x00", "\xff", "\x03\x02\x01\x00"} {
		for at := range len(headBytes) {
			for c := range 256 {
				b := []byte(headBytes + behind)
				if b[at] == byte(c) {
					continue
				}
				b[at] = byte(c)
				wantCode(t, "a changed byte", b, 1)
			}
			wantCode(t, "cut off", []byte(headBytes[:at]), 1)
			wantCode(t, "one lacks", []byte(headBytes[:at]+headBytes[at+1:]+behind), 1)
		}
		wantCode(t, "one more ahead", []byte("\x00"+headBytes+behind), 1)
	}
	wantCode(t, "nothing", nil, 1)
	wantModuleOf(t, "just the eight", []byte(headBytes), noMemory())
}

func TestCodeOfSectionsThatAreNotKnown(t *testing.T) {
	for number := range 256 {
		want := 2
		if slices.Contains(sectionOrder(), number) {
			want = 0
		}
		wantCode(t, "alone", ofChunks(chunk{number, []byte{0}}), want)
		if want == 2 {
			wantCode(t, "behind another", ofChunks(chunk{1, []byte{0}}, chunk{number, []byte{0}}), 2)
			wantCode(t, "ahead of another", ofChunks(chunk{number, []byte{0}}, chunk{11, []byte{0}}), 2)
			wantCode(t, "without a length", append(ofChunks(), byte(number)), 2)
		}
	}
}

// Of two sections, and of three, none may come twice or ahead of one with a lesser number.
func TestCodeOfSectionsOutOfOrder(t *testing.T) {
	for _, a := range sectionOrder() {
		for _, b := range sectionOrder() {
			want := 2
			if a < b {
				want = 0
			}
			wantCode(t, "two", ofChunks(chunk{a, []byte{0}}, chunk{b, []byte{0}}), want)
			for _, c := range sectionOrder() {
				if want == 2 || b >= c {
					wantCode(t, "three", ofChunks(chunk{a, []byte{0}}, chunk{b, []byte{0}}, chunk{c, []byte{0}}), 2)
				}
			}
		}
	}
}

func TestCodeOfSectionsThatAreNotAllThere(t *testing.T) {
	for _, number := range sectionOrder() {
		for _, s := range []string{"", "\x01", "\x02\x00", "\x80", "\x80\x80\x80\x80", "\x80\x01", "\x80\x80\x80\x80\x80\x00\x00", "\x81\x80\x80\x80\x80\x00\x00", "\x81\x80\x80\x80\x10\x00", "\xff\xff\xff\xff\x0f\x00", "\xff\xff\xff\xff\x07\x00"} {
			wantCode(t, "not all there", append(ofChunks(), append([]byte{byte(number)}, s...)...), 2)
		}
		wantCode(t, "a length in five bytes", append(ofChunks(), byte(number), 0x81, 0x80, 0x80, 0x80, 0, 0), 0)
	}
	l := chunks(wholeModule())
	for at := range l {
		b := ofChunks(l[:at+1]...)
		for size := len(ofChunks(l[:at]...)) + 1; size < len(b); size++ {
			wantCode(t, "cut off", b[:size], 2)
		}
	}
}

// What is in a section is cut off at every byte, or has one more behind; the section's length says so.
func TestCodeOfSectionsThatAreNotFilled(t *testing.T) {
	for _, m := range []impl.Module{wholeModule(), opsModule(), {Pages: 1, Most: -1}, {Pages: 1, Most: 300}} {
		l := chunks(m)
		for at, c := range l {
			for size := range len(c.inside) {
				wantCode(t, "section "+impl.NumText(c.number), ofChunks(with(l, at, c.inside[:size])...), 3)
			}
			for behind := range 256 {
				wantCode(t, "one more", ofChunks(with(l, at, append(slices.Clone(c.inside), byte(behind)))...), 3)
			}
		}
	}
}

// spot: what is in a section, and which bytes may stand at one place of it.
type spot struct {
	number int
	inside string
	at     int
	right  string
}

func spots() []spot {
	return []spot{
		{1, "\x01\x60\x01\x7f\x01\x7f", 1, "\x60"}, {1, "\x01\x60\x01\x7f\x01\x7f", 3, "\x7f"}, {1, "\x01\x60\x01\x7f\x01\x7f", 5, "\x7f"},
		{1, "\x02\x60\x00\x00\x60\x00\x00", 4, "\x60"}, {1, "\x01\x60\x02\x7f\x7f\x00", 4, "\x7f"},
		{2, "\x01\x01a\x01b\x00\x00", 5, "\x00"},
		{5, "\x01\x00\x01", 0, "\x01"}, {5, "\x01\x00\x01", 1, "\x00"}, {5, "\x01\x01\x01\x02", 0, "\x01"}, {5, "\x01\x01\x01\x02", 1, "\x01"},
		{6, "\x01\x7f\x00\x41\x05\x0b", 1, "\x7f"}, {6, "\x01\x7f\x00\x41\x05\x0b", 2, "\x00\x01"}, {6, "\x01\x7f\x00\x41\x05\x0b", 3, "\x41"}, {6, "\x01\x7f\x00\x41\x05\x0b", 5, "\x0b"},
		{11, "\x01\x00\x41\x05\x0b\x01\x07", 1, "\x00"}, {11, "\x01\x00\x41\x05\x0b\x01\x07", 2, "\x41"}, {11, "\x01\x00\x41\x05\x0b\x01\x07", 4, "\x0b"},
		{10, "\x01\x06\x01\x02\x7f\x01\x01\x0b", 4, "\x7f"}, {10, "\x01\x06\x01\x02\x7f\x01\x01\x0b", 7, "\x0b"}, {10, "\x01\x02\x00\x0b", 3, "\x0b"},
		{10, "\x01\x05\x00\x02\x40\x0b\x0b", 4, "\x40\x7f"}, {10, "\x01\x05\x00\x03\x7f\x0b\x0b", 4, "\x40\x7f"}, {10, "\x01\x05\x00\x04\x40\x0b\x0b", 4, "\x40\x7f"},
		{10, "\x01\x04\x00\x3f\x00\x0b", 4, "\x00"}, {10, "\x01\x04\x00\x40\x00\x0b", 4, "\x00"},
	}
}

// around: the section with this inside, behind those that it needs.
func (s spot) around(inside []byte) []byte {
	var l []chunk
	if s.number == 2 || s.number == 10 {
		l = append(l, chunk{1, []byte("\x01\x60\x00\x00")})
	}
	if s.number == 10 {
		l = append(l, chunk{3, []byte("\x01\x00")})
	}
	return ofChunks(append(l, chunk{s.number, inside})...)
}

func TestCodeOfBytesThatAreNotAsTheyMustBe(t *testing.T) {
	for _, s := range spots() {
		for c := range 256 {
			inside := []byte(s.inside)
			inside[s.at] = byte(c)
			want := 3
			if strings.Contains(s.right, string(inside[s.at:s.at+1])) {
				want = 0
			}
			wantCode(t, "section "+impl.NumText(s.number), s.around(inside), want)
		}
	}
}

// longer: the inside with the byte at the spot as a number in count bytes. A body's own length says so too.
func (s spot) longer(count int) []byte {
	inside := []byte(s.inside)
	if s.number == 10 {
		inside[1] += byte(count - 1)
	}
	return slices.Concat(inside[:s.at], inPieces(int(inside[s.at]), count), inside[s.at+1:])
}

// A byte that must stand somewhere is that one byte, not a number in more of them.
func TestCodeOfBytesThatStandAsNumbers(t *testing.T) {
	for _, s := range spots() {
		wantCode(t, "one byte", s.around(s.longer(1)), 0)
		for count := 2; count <= 6; count++ {
			wantCode(t, "section "+impl.NumText(s.number), s.around(s.longer(count)), 3)
		}
	}
	wantCode(t, "Kind", ofChunks(chunk{7, []byte("\x01\x01f\x00\x00")}), 0)
	wantCode(t, "Kind", ofChunks(chunk{7, []byte("\x01\x01f\x80\x00\x00")}), 3)
}

// That there is a memory, or none, is told by one byte; Pages and Most behind it may take more.
func TestCodeOfMemoriesThatAreNumbered(t *testing.T) {
	for _, m := range []impl.Module{{Pages: 0, Most: -1}, {Pages: 1, Most: -1}, {Pages: 2, Most: -1}, {Pages: 0, Most: 0}, {Pages: 1, Most: 2}, {Pages: 2, Most: 65536}} {
		for size := 1; size <= 5; size++ {
			limits := atLeast(size).memory(m)[0]
			wantModuleOf(t, "a memory", ofChunks(chunk{5, append([]byte{1}, limits...)}), m)
			for count := 2; count <= 6; count++ {
				numbered := chunk{5, append(inPieces(1, count), limits...)}
				wantCode(t, "a memory as a number", ofChunks(numbered), 3)
				wantCode(t, "ahead of other sections", ofChunks(numbered, chunk{6, []byte{0}}, chunk{11, []byte{0}}), 3)
			}
		}
	}
	wantModuleOf(t, "no memory", ofChunks(chunk{5, []byte{0}}), noMemory())
	for count := 2; count <= 6; count++ {
		wantCode(t, "no memory as a number", ofChunks(chunk{5, inPieces(0, count)}), 3)
	}
}

// Each operation's byte alone in a body: a byte that is none's is no instruction.
func TestCodeOfOperationsThatAreNotKnown(t *testing.T) {
	for op := range 256 {
		_, known := knownOp(op)
		for _, ahead := range []string{"", "\x01", "\x41\x05\x1a"} {
			inside := append([]byte{1}, shortest().sized([]byte("\x00"+ahead+string([]byte{byte(op)})+"\x0b"))...)
			b := ofChunks(chunk{1, []byte("\x01\x60\x00\x00")}, chunk{3, []byte("\x01\x00")}, chunk{10, inside})
			_, want := wantModule(b)
			wantCode(t, "operation "+impl.NumText(op), b, want)
			if !known && want != 3 {
				t.Errorf("%d is an operation", op)
			}
		}
	}
}

// An 11 that is part of a number is not the function's end.
func TestCodeOfBodiesWithoutTheirEnd(t *testing.T) {
	for inside, want := range map[string]int{
		"\x01\x02\x00\x0b": 0, "\x01\x01\x00": 3, "\x01\x00": 3, "\x01\x03\x00\x41\x0b": 3, "\x01\x03\x00\x0c\x0b": 3, "\x01\x04\x00\x28\x00\x0b": 3, "\x01\x03\x00\x0b\x01": 3,
		"\x01\x02\x00\x0b\x0b": 3, "\x01\x03\x00\x0b\x0b": 5, "\x01\x04\x00\x02\x40\x0b": 5, "\x01\x05\x00\x02\x40\x0b\x0b": 0, "\x01\x03\x00\x05\x0b": 5, "\x01\x04\x00\x0b\x01\x0b": 5,
	} {
		b := ofChunks(chunk{1, []byte("\x01\x60\x00\x00")}, chunk{3, []byte("\x01\x00")}, chunk{10, []byte(inside)})
		wantCode(t, "a body", b, want)
	}
}

// nameSpots: a module with one name, at each of the places of names.
func nameSpots(name string) []impl.Module {
	m := noMemory()
	m.Sigs = []impl.Sig{{}}
	module, own, export := copied(m), copied(m), copied(m)
	module.Imports = []impl.Import{{Mod: name, Name: "b"}}
	own.Imports = []impl.Import{{Mod: "a", Name: name}}
	export.Exports = []impl.Export{{Name: name, Index: 1}}
	return []impl.Module{module, own, export}
}

func TestCodeOfNames(t *testing.T) {
	for name, want := range map[string]int{
		"": 0, "a": 0, "é€😀": 0, "\x00": 0, strings.Repeat("a", 40): 0, strings.Repeat("é", 20): 0,
		strings.Repeat("a", 41): 5, strings.Repeat("é", 21): 5, strings.Repeat("a", 200): 5,
		"\xff": 3, "\x80": 3, "a\xc0\x80": 3, "\xed\xa0\x80": 3, "\xf4\x90\x80\x80": 3, "é"[:1]: 3, strings.Repeat("a", 40) + "\xff": 3, "\xff" + strings.Repeat("a", 60): 3,
	} {
		for _, m := range nameSpots(name) {
			wantCode(t, "a name", shortest().module(m), want)
		}
	}
}

// numberedBadly: the sections of m, but for the k-th number in them, which takes six bytes; nil where there are fewer.
func numberedBadly(m impl.Module, k int) []chunk {
	s := shortest()
	count := 0
	bad := func(write func(int) []byte) func(int) []byte {
		return func(n int) []byte {
			count++
			if count == k {
				return inPieces(n, 6)
			}
			return write(n)
		}
	}
	s.plain, s.signed = bad(s.plain), bad(s.signed)
	var l []chunk
	parts := s.parts(m)
	for _, number := range sectionOrder() {
		if len(parts[number]) > 0 {
			l = append(l, chunk{number, s.inside(number, parts[number])})
		}
	}
	if k > count {
		return nil
	}
	return l
}

// Each number of a module in turn stands in six bytes.
func TestCodeOfNumbersThatTakeTooMuch(t *testing.T) {
	for _, m := range []impl.Module{wholeModule(), {Pages: 1, Most: -1}, opsModule()} {
		var seen int
		for k := 1; ; k++ {
			l := numberedBadly(m, k)
			if l == nil {
				break
			}
			seen++
			wantCode(t, "number "+impl.NumText(k), ofChunks(l...), 3)
		}
		if seen == 0 {
			t.Error("no number was tried")
		}
	}
}

package tests

import (
	"slices"
	"strings"
	"testing"

	"loop.example/g00472/impl"
)

// functions: sections 3 and 10 with so many parts; none where the number is below 0.
func functions(sigs, bodies int) []byte {
	l := []chunk{{1, []byte("\x01\x60\x00\x00")}}
	if sigs >= 0 {
		l = append(l, chunk{3, append([]byte{byte(sigs)}, make([]byte, sigs)...)})
	}
	if bodies >= 0 {
		l = append(l, chunk{10, []byte(string(rune(bodies)) + strings.Repeat("\x02\x00\x0b", bodies))})
	}
	return ofChunks(l...)
}

func TestCodeOfDifferentNumbersOfFunctions(t *testing.T) {
	for sigs := -1; sigs <= 5; sigs++ {
		for bodies := -1; bodies <= 5; bodies++ {
			want := 4
			if max(sigs, 0) == max(bodies, 0) {
				want = 0
			}
			wantCode(t, "functions", functions(sigs, bodies), want)
		}
	}
	wantCode(t, "60 and 60", functions(60, 60), 0)
	wantCode(t, "61 and 61", functions(61, 61), 5)
	wantCode(t, "60 and 61", functions(60, 61), 4)
	wantCode(t, "61 and 62", functions(61, 62), 4)
}

// A number outside of what its field may have is a matter of the form.
func TestCodeOfFieldsOutside(t *testing.T) {
	for _, f := range fieldCases() {
		for _, n := range []int{f.least - 1, f.most + 1, f.most + 2, f.most + 128, 1001, 65537, 1<<31 - 1, 1 << 31, 1<<32 - 1} {
			// Lists of so many bytes 127 would take too long, and numbers with a sign are all right.
			tooLong := strings.Contains(f.what, "Params") || strings.Contains(f.what, "Results")
			if n < 0 || n <= f.most || tooLong && n > 2000 || f.most == impl.MaxI {
				continue
			}
			m := wholeModule()
			f.set(&m, n)
			if m.Pages >= 0 {
				wantCode(t, f.what+" "+impl.NumText(n), shortest().module(m), 5)
			}
		}
	}
}

// manyModules: modules that have one too many of something, or that are else not right.
func manyModules() map[string]impl.Module {
	l := map[string]impl.Module{}
	put := func(what string, change func(m *impl.Module)) {
		m := wholeModule()
		change(&m)
		l[what] = m
	}
	put("31 Sigs", func(m *impl.Module) { m.Sigs = times(impl.Sig{}, 31) })
	put("61 Imports", func(m *impl.Module) { m.Imports, m.Funcs = times(impl.Import{}, 61), nil })
	put("31 Imports and 30 Funcs", func(m *impl.Module) { m.Imports, m.Funcs = times(impl.Import{}, 31), times(impl.Func{}, 30) })
	put("31 Globals", func(m *impl.Module) { m.Globals = times(impl.Global{}, 31) })
	put("61 Exports", func(m *impl.Module) { m.Exports = times(impl.Export{}, 61) })
	put("21 Data", func(m *impl.Module) { m.Data = times(impl.Data{}, 21) })
	put("2001 bytes", func(m *impl.Module) { m.Data[0].Bytes = make([]byte, 2001) })
	put("1501 instructions", func(m *impl.Module) { m.Funcs[1].Body = times(impl.Ins{Op: impl.OpNop}, 1501) })
	put("no Sigs", func(m *impl.Module) { m.Sigs = nil })
	put("Kind 1", func(m *impl.Module) { m.Exports[0].Kind = 1 })
	put("Kind 4", func(m *impl.Module) { m.Exports[0].Kind = 4 })
	put("Kind 255", func(m *impl.Module) { m.Exports[0].Kind = 255 })
	put("a branch by 1001", func(m *impl.Module) { m.Funcs[1].Body = []impl.Ins{{Op: impl.OpBr, A: 1001}} })
	put("local 4294967295", func(m *impl.Module) { m.Funcs[1].Body = []impl.Ins{{Op: impl.OpGet, A: 1<<32 - 1}} })
	put("an alignment of 8", func(m *impl.Module) { m.Funcs[1].Body = []impl.Ins{{Op: impl.OpLoad, B: 3}} })
	put("an offset of 2147483648", func(m *impl.Module) { m.Funcs[1].Body = []impl.Ins{{Op: impl.OpStore, A: 1 << 31}} })
	for _, s := range []string{"b", "e", "s", "isse", "ibsee", "eb", "ie" + "s"} {
		put("shape "+s, func(m *impl.Module) { m.Funcs[1].Body = spelt(s) })
	}
	return l
}

func TestCodeOfWrongForms(t *testing.T) {
	for what, m := range manyModules() {
		wantCode(t, what, shortest().module(m), 5)
		wantCode(t, what, atLeast(5).module(m), 5)
	}
}

// A Most or Pages of all ones isn't the -1 that says there is none.
func TestCodeOfMemoriesOfAllOnes(t *testing.T) {
	for inside, want := range map[string]int{
		"\x01\x01\x01\xff\xff\xff\xff\x0f": 5, "\x01\x00\xff\xff\xff\xff\x0f": 5, "\x01\x01\xff\xff\xff\xff\x0f\xff\xff\xff\xff\x0f": 5,
		"\x01\x01\x02\x01": 5, "\x01\x01\x02\x02": 0, "\x01\x00\x03": 5, "\x01\x00\x02": 0, "\x01\x01\x00\x80\x80\x04": 0, "\x01\x01\x00\x81\x80\x04": 5,
		"\x02\x00\x01\x00\x01": 3, "\x02\x00\x01": 3, "\x00": 0, "": 3, "\x00\x00\x01": 3,
	} {
		wantCode(t, "a memory", ofChunks(chunk{5, []byte(inside)}), want)
	}
}

// wrongs: for each code from 2 to 5 sections that have it, and no other code.
func wrongs(code int) [][]chunk {
	switch code {
	case 2:
		return [][]chunk{{{4, []byte{0}}}, {{11, []byte{0}}, {11, []byte{0}}}}
	case 3:
		return [][]chunk{{{1, []byte("\x01\x61\x00\x00")}}, {{6, []byte{1}}}, {{7, []byte{0, 0}}}, {{11, nil}}}
	case 4:
		return [][]chunk{{{3, []byte("\x01\x00")}}, {{10, []byte("\x01\x02\x00\x0b")}}, {{3, []byte("\x01\x00")}, {10, []byte("\x02\x02\x00\x0b\x02\x00\x0b")}}}
	}
	return [][]chunk{{{2, []byte("\x01\x00\x00\x00\x00")}}, {{5, []byte("\x01\x00\x03")}}, {{7, []byte("\x01\x00\x01\x00")}}}
}

// merged: the sections of both, in order; false where one comes twice or a number isn't known.
func merged(a, b []chunk) ([]chunk, bool) {
	l := append(slices.Clone(a), b...)
	slices.SortStableFunc(l, func(x, y chunk) int { return x.number - y.number })
	for k, c := range l {
		if k > 0 && l[k-1].number == c.number || !slices.Contains(sectionOrder(), c.number) {
			return nil, false
		}
	}
	return l, true
}

// Where two codes could be told the lesser one is, wherever the faults stand.
func TestCodeOfTwoFaults(t *testing.T) {
	for a := 3; a <= 5; a++ {
		for b := a + 1; b <= 5; b++ {
			tried := 0
			for _, x := range wrongs(a) {
				wantCode(t, "alone", ofChunks(x...), a)
				for _, y := range wrongs(b) {
					if l, fits := merged(x, y); fits {
						tried++
						wantCode(t, "together", ofChunks(l...), a)
					}
				}
			}
			if tried == 0 {
				t.Errorf("codes %d and %d were not tried together", a, b)
			}
		}
	}
}

func TestCodeOfSectionsAheadOfWhatIsInThem(t *testing.T) {
	for b := 3; b <= 5; b++ {
		for _, y := range wrongs(b) {
			for _, x := range wrongs(2) {
				wantCode(t, "ahead", ofChunks(append(slices.Clone(x), y...)...), 2)
				wantCode(t, "behind", ofChunks(append(slices.Clone(y), x...)...), 2)
			}
			wantCode(t, "not all there", append(ofChunks(y...), 11, 2, 0), 2)
			head := ofChunks(y...)
			head[0] = 1
			wantCode(t, "the first eight", head, 1)
		}
	}
	wantCode(t, "all of them", append([]byte("\x00asm\x02\x00\x00\x00"), 4, 9), 1)
}

// wantAsModel: code and module are those of the tests' own reader.
func wantAsModel(t *testing.T, b []byte) {
	t.Helper()
	m, code := impl.ReadModule(b)
	if want, wantCode := wantModule(b); code != wantCode || !alike(m, want) {
		t.Fatalf("code %d and %+v, not %d and %+v, of % x", code, m, wantCode, want, b)
	}
}

// smallModule: something of everything, in few bytes.
func smallModule() impl.Module {
	m := wholeModule()
	m.Sigs[2].Params = 3
	m.Funcs[1].Body, _ = impl.TextBody("local.get 1;if 1;i32.const -300;else;i32.load 7 2;end;memory.size;call 1")
	return m
}

// Each byte of a module is each other byte, lacks, stands twice, or is the last one.
func TestModulesWithOneByteChanged(t *testing.T) {
	for _, s := range []style{shortest(), atLeast(2)} {
		b := s.module(smallModule())
		for at := range b {
			for c := range 256 {
				changed := slices.Clone(b)
				changed[at] = byte(c)
				wantAsModel(t, changed)
			}
			wantAsModel(t, b[:at])
			wantAsModel(t, slices.Delete(slices.Clone(b), at, at+1))
			wantAsModel(t, slices.Insert(slices.Clone(b), at, b[at]))
		}
	}
}

// Within each section each byte is changed so that its length still fits: none lacks or is one more.
func TestModulesWithBytesMovedWithinSections(t *testing.T) {
	l := chunks(smallModule())
	for at, c := range l {
		for k := range c.inside {
			wantAsModel(t, ofChunks(with(l, at, slices.Delete(slices.Clone(c.inside), k, k+1))...))
			for _, v := range []byte{0, 1, 11, 64, 65, 96, 127, 128, 255} {
				wantAsModel(t, ofChunks(with(l, at, slices.Insert(slices.Clone(c.inside), k, v))...))
			}
		}
	}
}

// Bytes spread by a fixed rule: several changes at once.
func TestModulesWithManyBytesChanged(t *testing.T) {
	b := shortest().module(smallModule())
	n := uint64(88172645463325252)
	next := func(below int) int {
		n ^= n << 13
		n ^= n >> 7
		n ^= n << 17
		return int(n>>20) % below
	}
	usual := []byte{0, 1, 2, 3, 4, 5, 6, 7, 10, 11, 64, 65, 96, 127, 128, 129, 255}
	for range 30000 {
		changed := slices.Clone(b)
		for range 1 + next(4) {
			changed[len(headBytes)+next(len(b)-len(headBytes))] = usual[next(len(usual))]
		}
		wantAsModel(t, changed)
	}
}

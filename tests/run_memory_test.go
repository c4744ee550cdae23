package tests

import (
	"slices"
	"strconv"
	"testing"

	"loop.example/g00472/impl"
)

const page = 65536

// stored: a module with a memory; its function 0 loads from the address that
// is its Param, at an offset, and its function 1 stores its second Param there
// and loads it again.
func stored(t *testing.T, pages, offset int) impl.Module {
	t.Helper()
	load := "local.get 0;i32.load " + strconv.Itoa(offset) + " 0"
	store := "local.get 0;local.get 1;i32.store " + strconv.Itoa(offset) + " 2"
	return impl.Module{
		Sigs:  []impl.Sig{{Params: 1, Results: 1}, {Params: 2, Results: 1}},
		Funcs: []impl.Func{{Sig: 0, Body: bodyOf(t, load)}, {Sig: 1, Body: bodyOf(t, joined(store, load))}},
		Pages: pages,
		Most:  -1,
	}
}

// The four bytes are all within, or the run ends; the address is plain, and no sum of it and an offset goes round.
func TestPlacesOfMemory(t *testing.T) {
	for pages := range 3 {
		size := pages * page
		for _, offset := range []int{0, 1, 4, 100, page - 4, page, 2 * page, impl.MaxI - 1, impl.MaxI} {
			m := stored(t, pages, offset)
			for _, at := range []int{0, 1, 3, 4, 100, size - offset - 5, size - offset - 4, size - offset - 3, size - offset - 1, size - offset, size - 4, size, page, -1, -2, -4, -100, -offset, impl.MaxI, impl.MinI, impl.MinI + 1} {
				right := wantPlain(at)+offset+4 <= size
				wantPlace(t, m, at, right)
			}
		}
	}
}

func wantPlace(t *testing.T, m impl.Module, at int, right bool) {
	t.Helper()
	load, store := trapped(impl.WhyMemory, 2), trapped(impl.WhyMemory, 3)
	if right {
		load, store = done(0, 2), done(-559038737, 5)
	}
	wantRun(t, m, 0, []int{at}, nil, 9, load)
	wantRun(t, m, 1, []int{at, -559038737}, nil, 9, store)
}

func TestPlacesByHand(t *testing.T) {
	for _, c := range []struct {
		text  string
		right bool
	}{
		{"i32.const 65532;i32.load 0 0", true},
		{"i32.const 65533;i32.load 0 0", false},
		{"i32.const 0;i32.load 65532 2", true},
		{"i32.const 0;i32.load 65533 2", false},
		{"i32.const 1;i32.load 65531 1", true},
		{"i32.const 1;i32.load 65532 1", false},
		{"i32.const 0;i32.load 65536 0", false},
		{"i32.const 0;i32.load 2147483647 0", false},
		{"i32.const -1;i32.load 0 0", false},
		{"i32.const -4;i32.load 4 0", false},
		{"i32.const -1;i32.load 1 0", false},
		{"i32.const -2147483648;i32.load 2147483647 0", false},
	} {
		r := impl.RunMain(machine(t, 1, c.text), nil, 9)
		want := trapped(impl.WhyMemory, 2)
		if c.right {
			want = done(0, 2)
		}
		if !whole(r, leaving(want, 5, -5)) {
			t.Errorf("%q: %+v", c.text, r)
		}
	}
}

// The lowest byte stands first; the exponent that it is aligned to changes nothing.
func TestOrderOfBytes(t *testing.T) {
	const number = 0x04030201
	for b := range 3 {
		store := "i32.const 100;i32.const " + strconv.Itoa(number) + ";i32.store 1 " + strconv.Itoa(b)
		for at, want := range map[int]int{97: 0, 98: 0x01000000, 99: 0x02010000, 100: 0x03020100, 101: number, 102: 0x00040302, 103: 0x0403, 104: 4, 105: 0} {
			load := "i32.const " + strconv.Itoa(at-7) + ";i32.load 7 " + strconv.Itoa(b)
			wantN(t, machine(t, 1, joined(store, load)), 3, nil, want)
		}
	}
	for _, n := range []int{0, 1, -1, 255, 256, -256, 128, 32768, 8388608, impl.MinI, impl.MaxI, -559038737} {
		wantN(t, stored(t, 1, 5), 1, []int{9, n}, n)
	}
}

// A store that isn't all within writes nothing, and what is stored last is loaded.
func TestStores(t *testing.T) {
	wantMain(t, 1, "i32.const 8;i32.const 3;i32.store 0 0;i32.const 8;i32.const -4;i32.store 0 0;i32.const 8;i32.load 0 0", nil, done(-4, 8))
	wantMain(t, 1, "i32.const 8;i32.const -1;i32.store 0 0;i32.const 10;i32.const 0;i32.store 0 0;i32.const 8;i32.load 0 0", nil, done(65535, 8))
	wantMain(t, 0, "i32.const 65533;i32.const 3;i32.store 0 0", nil, trapped(impl.WhyMemory, 3))
	wantMain(t, 0, "i32.const -1;i32.const 3;i32.store 0 0", nil, trapped(impl.WhyMemory, 3))
}

// One memory for all calls of a run, and a new one for each run.
func TestMemoryOfARun(t *testing.T) {
	m := machine(t, 1, "i32.const 0;i32.load 0 0;i32.const 0;i32.const 9;i32.store 0 0;call 5;i32.const 0;i32.load 0 0;i32.const 10;i32.mul;i32.add")
	m.Funcs[2].Body = bodyOf(t, "i32.const 0;i32.const 0;i32.load 0 0;i32.const 1;i32.add;i32.store 0 0")
	wantN(t, m, 3, nil, 100)
	wantN(t, m, 3, nil, 100)
}

func TestGrowing(t *testing.T) {
	for _, c := range []struct {
		pages, most int
		by          []int
		want        []int
		size        int
	}{
		{0, -1, []int{0}, []int{0}, 0},
		{0, -1, []int{1, 1, 1}, []int{0, 1, -1}, 2},
		{0, -1, []int{2}, []int{0}, 2},
		{0, -1, []int{3, 2}, []int{-1, 0}, 2},
		{1, -1, []int{1}, []int{1}, 2},
		{1, -1, []int{2, 1, 0}, []int{-1, 1, 2}, 2},
		{2, -1, []int{0, 1}, []int{2, -1}, 2},
		{0, 0, []int{1, 0}, []int{-1, 0}, 0},
		{0, 1, []int{2, 1, 1, 0}, []int{-1, 0, -1, 1}, 1},
		{1, 1, []int{1, 0}, []int{-1, 1}, 1},
		{1, 2, []int{2, 1, 1}, []int{-1, 1, -1}, 2},
		{1, 3, []int{2, 1, 1}, []int{-1, 1, -1}, 2},
		{2, 2, []int{1, 0}, []int{-1, 2}, 2},
		{2, 65536, []int{1, 65534, 0}, []int{-1, -1, 2}, 2},
		{0, 65536, []int{-1, -2, impl.MinI, impl.MaxI, 65536, 2}, []int{-1, -1, -1, -1, -1, 0}, 2},
		{1, -1, []int{-1, impl.MinI, impl.MaxI, 65535, 65536}, []int{-1, -1, -1, -1, -1}, 1},
	} {
		text := ""
		var put []int
		for k, n := range c.by {
			text = joined(text, "i32.const "+strconv.Itoa(n)+";memory.grow;call 1")
			put = append(put, wantPlain(c.want[k])%256)
		}
		m := machine(t, 1, joined(text, "memory.size"))
		m.Pages, m.Most = c.pages, c.most
		wantRun(t, m, 3, nil, nil, 99, leaving(saying(done(c.size, 3*len(c.by)+1), put...), 5, -5))
		wantAsPlayed(t, m, 3, nil, nil, 99)
	}
}

// What was stored stays, and the new bytes are 0 to the last one.
func TestNewPages(t *testing.T) {
	m := machine(t, 1, "i32.const 65532;i32.const -1;i32.store 0 0;i32.const 1;memory.grow;drop;local.get 0")
	m.Sigs[0].Params = 1
	m.Funcs[0].Body = append(m.Funcs[0].Body, bodyOf(t, "i32.load 0 0")...)
	for at, want := range map[int]int{65528: 0, 65529: -1 << 24, 65532: -1, 65533: 1<<24 - 1, 65535: 255, 65536: 0, 65537: 0, 100000: 0, 131068: 0} {
		wantN(t, m, 3, []int{at}, want)
	}
	for _, at := range []int{131069, 131072, -1} {
		wantRun(t, m, 3, []int{at}, nil, 99, leaving(trapped(impl.WhyMemory, 8), 5, -5))
	}
	// Where it wasn't grown, nothing is there.
	m.Most = 1
	wantN(t, m, 3, []int{65532}, -1)
	wantRun(t, m, 3, []int{65533}, nil, 99, leaving(trapped(impl.WhyMemory, 8), 5, -5))
	// Each of the new bytes, by a loop that sums them up.
	sum := "i32.const 1;memory.grow;drop;i32.const 65536;local.set 0;loop 0;local.get 0;i32.load 0 0;local.get 1;i32.or;local.set 1;local.get 0;i32.const 64;i32.add;local.tee 0;i32.const 131072;i32.lt_u;br_if 0;end;local.get 1"
	wantN(t, machine(t, 1, sum), 3, nil, 0)
}

func TestSizes(t *testing.T) {
	for pages := range 3 {
		m := machine(t, 1, "memory.size")
		m.Pages = pages
		wantN(t, m, 3, nil, pages)
		m.Most = 2
		wantN(t, m, 3, nil, pages)
	}
}

// Data lies where its At says, later ones over earlier ones, and all else is 0.
func TestDataLiesThere(t *testing.T) {
	m := stored(t, 1, 0)
	m.Data = []impl.Data{
		{At: 10, Bytes: []byte{1, 2, 3, 4, 255}},
		{At: page - 4, Bytes: []byte{255, 255, 255, 127}},
		{At: 12, Bytes: []byte{9}},
		{At: 0},
		{At: page},
		{At: 0, Bytes: []byte{128}},
	}
	for at, want := range map[int]int{0: 128, 1: 0, 5: 0, 6: 0, 7: 1 << 24, 10: 0x04090201, 11: 0xff040902 - 1<<32, 14: 255, 15: 0, page - 4: impl.MaxI, page - 8: 0} {
		wantN(t, m, 0, []int{at}, want)
	}
	// A run that stores over them changes nothing of the next one.
	wantN(t, m, 1, []int{10, 77}, 77)
	wantN(t, m, 0, []int{10}, 0x04090201)
}

// Data fits to the last byte; one byte beyond it the run ends at once, whatever it is given.
func TestDataFits(t *testing.T) {
	for pages := range 3 {
		size := pages * page
		for _, length := range []int{0, 1, 3, 2000} {
			for _, at := range []int{0, 1, size - length - 1, size - length, size - length + 1, size - 1, size, size + 1, -1, -length, impl.MinI, impl.MaxI} {
				m := machine(t, 1, "i32.const 7;global.set 0;i32.const 4")
				m.Pages = pages
				m.Data = []impl.Data{{At: at, Bytes: times[byte](1, length)}}
				wantFits(t, m, wantPlain(at)+length <= size)
				m.Data = slices.Concat(times(impl.Data{}, 19), m.Data)
				wantFits(t, m, wantPlain(at)+length <= size)
				slices.Reverse(m.Data)
				wantFits(t, m, wantPlain(at)+length <= size)
			}
		}
	}
}

func wantFits(t *testing.T, m impl.Module, fits bool) {
	t.Helper()
	if !impl.ModuleOk(m) {
		t.Fatalf("the module isn't right: %v", m.Data)
	}
	if fits {
		wantRun(t, m, 3, nil, nil, 9, leaving(done(4, 3), 7, -5))
		wantRun(t, m, 0, nil, []int{6}, 0, leaving(done(6, 0), 5, -5))
		return
	}
	none := leaving(trapped(impl.WhyMemory, 0), 5, -5)
	for _, fuel := range []int{-1, 0, 1, 20000} {
		wantRun(t, m, 3, nil, nil, fuel, none)
		wantRun(t, m, 0, nil, []int{6}, fuel, none)
		wantRun(t, m, 1, []int{6}, nil, fuel, none)
		wantRun(t, m, 2, nil, nil, fuel, none)
	}
	// What is wrong counts ahead of what doesn't fit.
	wantRun(t, m, 3, []int{1}, nil, 9, bad)
	wantRun(t, m, 6, nil, nil, 9, bad)
}

// Data is there when the memory grows, and it must fit ahead of that.
func TestDataAheadOfGrowing(t *testing.T) {
	m := machine(t, 1, "i32.const 1;memory.grow;drop;i32.const 65534;i32.load 0 0")
	m.Data = []impl.Data{{At: 65534, Bytes: []byte{5, 6}}}
	wantN(t, m, 3, nil, 0x0605)
	m.Data[0].Bytes = []byte{5, 6, 7}
	wantRun(t, m, 3, nil, nil, 99, leaving(trapped(impl.WhyMemory, 0), 5, -5))
}

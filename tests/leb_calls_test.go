package tests

import (
	"bytes"
	"math"
	"strings"
	"testing"

	"loop.example/g00472/impl"
)

// putter: one of the functions that write behind b.
type putter struct {
	name string
	do   func(b []byte) []byte
}

func putters() []putter {
	l := []putter{
		{"PutName of nothing", func(b []byte) []byte { return impl.PutName(b, "") }},
		{"PutName of five", func(b []byte) []byte { return impl.PutName(b, "seven") }},
		{"PutName of many", func(b []byte) []byte { return impl.PutName(b, strings.Repeat("x", 200)) }},
	}
	for _, n := range []int{0, -1, 200, 1 << 20, impl.MinI, math.MaxInt, math.MinInt} {
		l = append(l,
			putter{"PutU", func(b []byte) []byte { return impl.PutU(b, n) }},
			putter{"PutS", func(b []byte) []byte { return impl.PutS(b, n) }})
	}
	return l
}

// roomy: size bytes with room behind them; all of it is given too.
func roomy(size, room int) (all, b []byte) {
	all = bytes.Repeat([]byte{0xaa}, size+room)
	return all, all[:size]
}

func TestPutSharesNoMemoryWithItsList(t *testing.T) {
	for _, p := range putters() {
		for _, size := range []int{0, 1, 3, 1000} {
			for _, room := range []int{0, 1, 5, 300} {
				all, b := roomy(size, room)
				kept := bytes.Clone(all)
				answer := p.do(b)
				again := p.do(b)
				if !bytes.Equal(all, kept) {
					t.Errorf("%s changed its list of %d, or the room of %d behind it", p.name, size, room)
				}
				whole := bytes.Clone(again)
				spoil(answer)
				if !bytes.Equal(all, kept) || !bytes.Equal(again, whole) {
					t.Errorf("%s: what is written into an answer is seen in its list of %d or in another answer", p.name, size)
				}
				spoil(all)
				if !bytes.Equal(again, whole) {
					t.Errorf("%s: what is written into its list of %d is seen in an answer", p.name, size)
				}
			}
		}
	}
}

// spoil turns each bit of b and of the room behind it.
func spoil(b []byte) {
	b = b[:cap(b)]
	for i := range b {
		b[i] ^= 255
	}
}

func TestNilAndEmptyListsAreOne(t *testing.T) {
	for _, p := range putters() {
		if a, b := p.do(nil), p.do([]byte{}); !bytes.Equal(a, b) || len(a) == 0 {
			t.Errorf("%s tells nil from the empty list: % x, % x", p.name, a, b)
		}
	}
}

func TestGetChangesNothing(t *testing.T) {
	b := []byte("\x03abc\x80\x80\x01\xff\x7f\xff\xff\xff\xff\x0f\x02d")
	kept := bytes.Clone(b)
	for at := -1; at <= len(b)+1; at++ {
		first := [2]got{gotU(b, at), gotS(b, at)}
		impl.GetName(b, at)
		if then := [2]got{gotU(b, at), gotS(b, at)}; then != first {
			t.Errorf("at %d first %v, then %v", at, first, then)
		}
	}
	if !bytes.Equal(b, kept) {
		t.Errorf("b became % x", b)
	}
	name, _, ok := impl.GetName(b, 0)
	spoil(b)
	if !ok || name != "abc" {
		t.Errorf("what is written into b is seen in its name: %q, %v", name, ok)
	}
}

// What is told of numbers of more than 32 bits is what is told of their Wrap.
func TestPutOfWrapIsTheSame(t *testing.T) {
	for _, n := range lebNumbers() {
		if !bytes.Equal(impl.PutU(nil, n), impl.PutU(nil, wantWrap(n))) || !bytes.Equal(impl.PutS(nil, n), impl.PutS(nil, wantWrap(n))) {
			t.Errorf("PutU or PutS tells %d from its Wrap", n)
		}
	}
}

// Long lists and texts are read and written within a moment, and no call panics.
func TestLongListsAndTexts(t *testing.T) {
	const long = 1 << 22
	for _, c := range []byte{0, 1, 127, 128, 255} {
		b := bytes.Repeat([]byte{c}, long)
		for _, at := range []int{0, 1, long / 2, long - 5, long - 1} {
			wantRead(t, b, at)
		}
		if u := impl.PutU(b, 300); len(u) != long+2 || !bytes.HasSuffix(u, []byte{0xac, 2}) {
			t.Errorf("PutU behind %d bytes is %d bytes", long, len(u))
		}
		if impl.UtfOk(string(b)) != (c < 128) {
			t.Errorf("UtfOk of %d bytes of %d isn't %v", long, c, c < 128)
		}
	}
}

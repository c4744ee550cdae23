package tests

import (
	"bytes"
	"testing"

	"loop.example/g00472/impl"
)

func TestGetUByHand(t *testing.T) {
	for s, want := range map[string]got{
		"\x00": {0, 1, true}, "\x7f": {127, 1, true}, "\x80\x01": {128, 2, true}, "\xe5\x8e\x26": {624485, 3, true},
		"\x80\x00": {0, 2, true}, "\x80\x80\x00": {0, 3, true}, "\x80\x80\x80\x80\x00": {0, 5, true}, "\xff\x80\x80\x00": {127, 4, true},
		"\xff\xff\xff\xff\x0f": {4294967295, 5, true}, "\x80\x80\x80\x80\x0f": {4026531840, 5, true}, "\xff\xff\xff\x7f": {268435455, 4, true},
		"\xff\xff\xff\xff\x07": {impl.MaxI, 5, true}, "\x80\x80\x80\x80\x08": {impl.MaxI + 1, 5, true},
		"\xff\xff\xff\xff\x10": {}, "\x80\x80\x80\x80\x10": {}, "\x80\x80\x80\x80\x70": {}, "\x80\x80\x80\x80\x7f": {},
		"\x80\x80\x80\x80\x80": {}, "\x80\x80\x80\x80\x8f": {}, "\x80\x80\x80\x80\x80\x00": {}, "\xff\xff\xff\xff\xff\x00": {},
		"": {}, "\x80": {}, "\xff": {}, "\x80\x80": {}, "\x80\x80\x80": {}, "\x80\x80\x80\x80": {},
	} {
		if g := gotU([]byte(s), 0); g != want {
			t.Errorf("GetU of % x is %v, not %v", s, g, want)
		}
	}
}

func TestGetSByHand(t *testing.T) {
	for s, want := range map[string]got{
		"\x00": {0, 1, true}, "\x3f": {63, 1, true}, "\x40": {-64, 1, true}, "\x7f": {-1, 1, true}, "\xc0\x00": {64, 2, true}, "\xc0\xbb\x78": {-123456, 3, true},
		"\x80\x00": {0, 2, true}, "\xff\x7f": {-1, 2, true}, "\xff\xff\xff\xff\x7f": {-1, 5, true}, "\xff\xff\x7f": {-1, 3, true}, "\x80\x80\x80\x80\x00": {0, 5, true},
		"\x80\x7f": {-128, 2, true}, "\xc0\xff\xff\x7f": {-64, 4, true},
		"\xff\xff\xff\xff\x07": {impl.MaxI, 5, true}, "\x80\x80\x80\x80\x78": {impl.MinI, 5, true}, "\x80\x80\x80\x80\x07": {1879048192, 5, true}, "\xff\xff\xff\xff\x78": {-1879048193, 5, true},
		"\xff\xff\xff\xff\x08": {}, "\x80\x80\x80\x80\x08": {}, "\x80\x80\x80\x80\x0f": {}, "\x80\x80\x80\x80\x10": {}, "\x80\x80\x80\x80\x40": {},
		"\x80\x80\x80\x80\x70": {}, "\xff\xff\xff\xff\x77": {}, "\x80\x80\x80\x80\x77": {},
		"\x80\x80\x80\x80\x80": {}, "\xff\xff\xff\xff\xff": {}, "\x80\x80\x80\x80\x80\x00": {}, "\xff\xff\xff\xff\xff\x7f": {}, "\xff\xff\xff\xff\xf8": {},
		"": {}, "\x80": {}, "\xff": {}, "\xff\xff": {}, "\xff\xff\xff": {}, "\xff\xff\xff\xff": {},
	} {
		if g := gotS([]byte(s), 0); g != want {
			t.Errorf("GetS of % x is %v, not %v", s, g, want)
		}
	}
}

// Each last byte behind up to five bytes that go on: what stands there, cut short, and with bytes ahead and behind.
func TestReadingAtEachLastByte(t *testing.T) {
	goOn := []byte{128, 129, 191, 192, 255}
	heads := [][]byte{{}}
	for at := 0; at < len(heads); at++ {
		if h := heads[at]; len(h) < 4 {
			for _, c := range goOn {
				heads = append(heads, append(bytes.Clone(h), c))
			}
		}
	}
	heads = append(heads, bytes.Repeat([]byte{128}, 5), bytes.Repeat([]byte{255}, 5))
	for _, h := range heads {
		for last := range 256 {
			wantRead(t, append(bytes.Clone(h), byte(last)), 0)
		}
		wantRead(t, append([]byte{7, 255}, append(bytes.Clone(h), 7, 255)...), 2)
	}
}

func wantRead(t *testing.T, b []byte, at int) {
	t.Helper()
	if g := gotU(b, at); g != wantGetU(b, at) {
		t.Errorf("GetU of % x at %d is %v, not %v", b, at, g, wantGetU(b, at))
	}
	if g := gotS(b, at); g != wantGetS(b, at) {
		t.Errorf("GetS of % x at %d is %v, not %v", b, at, g, wantGetS(b, at))
	}
}

// A number is read all the same where it stands in more bytes than it takes.
func TestNumbersInMoreBytesThanTheyTake(t *testing.T) {
	for _, n := range lebNumbers() {
		for count := len(wantPutU(n)); count <= 5; count++ {
			if b := inPieces(wantPlain(n), count); gotU(b, 0) != (got{wantPlain(n), count, true}) {
				t.Errorf("GetU of % x is %v, not %d", b, gotU(b, 0), n)
			}
		}
		for count := len(wantPutS(n)); count <= 5; count++ {
			if b := inPieces(wantWrap(n), count); gotS(b, 0) != (got{wantWrap(n), count, true}) {
				t.Errorf("GetS of % x is %v, not %d", b, gotS(b, 0), n)
			}
		}
		if b := inPieces(wantPlain(n), 6); gotU(b, 0) != (got{}) {
			t.Errorf("GetU of % x is %v: six bytes", b, gotU(b, 0))
		}
		if b := inPieces(wantWrap(n), 6); gotS(b, 0) != (got{}) {
			t.Errorf("GetS of % x is %v: six bytes", b, gotS(b, 0))
		}
	}
}

// A number that is cut short is none, though b has room behind it in which it goes on.
func TestNumbersCutShort(t *testing.T) {
	for _, n := range lebNumbers() {
		for _, b := range [][]byte{wantPutU(n), wantPutS(n)} {
			for size := range b {
				if g := gotU(b[:size], 0); g != (got{}) {
					t.Errorf("GetU of % x is %v", b[:size], g)
				}
				if g := gotS(b[:size], 0); g != (got{}) {
					t.Errorf("GetS of % x is %v", b[:size], g)
				}
			}
		}
	}
}

func TestPlacesThatAreNone(t *testing.T) {
	for _, b := range [][]byte{nil, {}, {0}, {0, 0, 0, 0, 0, 0}, {1, 'a', 1, 'b'}, bytes.Repeat([]byte{1}, 300)} {
		for _, at := range noPlaces(len(b)) {
			wantNoPlace(t, b, at)
		}
	}
	// The room behind b isn't b.
	room := make([]byte, 2, 20)
	for at := 2; at < 20; at++ {
		wantNoPlace(t, room, at)
	}
}

func wantNoPlace(t *testing.T, b []byte, at int) {
	t.Helper()
	if g := gotU(b, at); g != (got{}) {
		t.Errorf("GetU of % x at %d is %v", b, at, g)
	}
	if g := gotS(b, at); g != (got{}) {
		t.Errorf("GetS of % x at %d is %v", b, at, g)
	}
	if s, to, ok := impl.GetName(b, at); s != "" || to != 0 || ok {
		t.Errorf("GetName of % x at %d is %q, %d, %v", b, at, s, to, ok)
	}
}

package tests

import (
	"bytes"
	"math"
	"testing"

	"loop.example/g00472/impl"
)

func TestPutUByHand(t *testing.T) {
	for _, c := range []struct {
		n    int
		want string
	}{
		{0, "\x00"}, {1, "\x01"}, {127, "\x7f"},
		{128, "\x80\x01"}, {129, "\x81\x01"}, {16383, "\xff\x7f"},
		{16384, "\x80\x80\x01"}, {624485, "\xe5\x8e\x26"}, {2097151, "\xff\xff\x7f"},
		{2097152, "\x80\x80\x80\x01"}, {268435455, "\xff\xff\xff\x7f"},
		{268435456, "\x80\x80\x80\x80\x01"}, {impl.MaxI, "\xff\xff\xff\xff\x07"},
		{impl.MinI, "\x80\x80\x80\x80\x08"}, {impl.MaxI + 1, "\x80\x80\x80\x80\x08"},
		{-1, "\xff\xff\xff\xff\x0f"}, {4294967295, "\xff\xff\xff\xff\x0f"},
		{4294967296, "\x00"}, {4294967297, "\x01"}, {-4294967296, "\x00"},
		{math.MaxInt, "\xff\xff\xff\xff\x0f"}, {math.MinInt, "\x00"},
	} {
		if b := impl.PutU(nil, c.n); string(b) != c.want {
			t.Errorf("PutU of %d is % x, not % x", c.n, b, c.want)
		}
	}
}

func TestPutSByHand(t *testing.T) {
	for _, c := range []struct {
		n    int
		want string
	}{
		{0, "\x00"}, {1, "\x01"}, {63, "\x3f"}, {-1, "\x7f"}, {-64, "\x40"},
		{64, "\xc0\x00"}, {127, "\xff\x00"}, {128, "\x80\x01"}, {-65, "\xbf\x7f"}, {-128, "\x80\x7f"}, {8191, "\xff\x3f"}, {-8192, "\x80\x40"},
		{8192, "\x80\xc0\x00"}, {-8193, "\xff\xbf\x7f"}, {-123456, "\xc0\xbb\x78"}, {1048575, "\xff\xff\x3f"}, {-1048576, "\x80\x80\x40"},
		{1048576, "\x80\x80\xc0\x00"}, {-1048577, "\xff\xff\xbf\x7f"}, {134217727, "\xff\xff\xff\x3f"}, {-134217728, "\x80\x80\x80\x40"},
		{134217728, "\x80\x80\x80\xc0\x00"}, {-134217729, "\xff\xff\xff\xbf\x7f"},
		{impl.MaxI, "\xff\xff\xff\xff\x07"}, {impl.MinI, "\x80\x80\x80\x80\x78"},
		{impl.MaxI + 1, "\x80\x80\x80\x80\x78"}, {impl.MinI - 1, "\xff\xff\xff\xff\x07"},
		{4294967295, "\x7f"}, {4294967296, "\x00"}, {math.MaxInt, "\x7f"}, {math.MinInt, "\x00"},
	} {
		if b := impl.PutS(nil, c.n); string(b) != c.want {
			t.Errorf("PutS of %d is % x, not % x", c.n, b, c.want)
		}
	}
}

func TestNumbersTakeAsFewBytesAsTheyTake(t *testing.T) {
	for _, n := range lebNumbers() {
		if b := impl.PutU(nil, n); !bytes.Equal(b, wantPutU(n)) {
			t.Errorf("PutU of %d is % x, not % x", n, b, wantPutU(n))
		}
		if b := impl.PutS(nil, n); !bytes.Equal(b, wantPutS(n)) {
			t.Errorf("PutS of %d is % x, not % x", n, b, wantPutS(n))
		}
	}
}

func TestNumbersAreReadAsWritten(t *testing.T) {
	for _, ahead := range []string{"", "\x00", "\x80", "\xff\xff\xff\xff\xff\xff", "ahead"} {
		for _, behind := range []string{"", "\x00", "\x7f", "\xff\xff\xff\xff\xff", "behind"} {
			for _, n := range lebNumbers() {
				wantRoundU(t, ahead, n, behind)
				wantRoundS(t, ahead, n, behind)
			}
		}
	}
}

func wantRoundU(t *testing.T, ahead string, n int, behind string) {
	t.Helper()
	b := impl.PutU([]byte(ahead), n)
	if string(b[:len(ahead)]) != ahead {
		t.Errorf("PutU of %q, %d begins otherwise: % x", ahead, n, b)
	}
	if g := gotU(append(b, behind...), len(ahead)); g != (got{wantPlain(n), len(b), true}) {
		t.Errorf("GetU behind %q and ahead of %q is %v for %d", ahead, behind, g, n)
	}
}

func wantRoundS(t *testing.T, ahead string, n int, behind string) {
	t.Helper()
	b := impl.PutS([]byte(ahead), n)
	if string(b[:len(ahead)]) != ahead {
		t.Errorf("PutS of %q, %d begins otherwise: % x", ahead, n, b)
	}
	if g := gotS(append(b, behind...), len(ahead)); g != (got{wantWrap(n), len(b), true}) {
		t.Errorf("GetS behind %q and ahead of %q is %v for %d", ahead, behind, g, n)
	}
}

// Numbers and names one behind another: each is read from where the one ahead of it ended.
func TestThingsStandOneBehindAnother(t *testing.T) {
	var b []byte
	l := lebNumbers()
	for _, n := range l {
		b = impl.PutName(impl.PutS(impl.PutU(b, n), n), impl.NumText(n))
	}
	at := 0
	for _, n := range l {
		u, next, ok := impl.GetU(b, at)
		s, then, also := impl.GetS(b, next)
		text, end, too := impl.GetName(b, then)
		if !ok || !also || !too || u != wantPlain(n) || s != wantWrap(n) || text != impl.NumText(n) {
			t.Fatalf("at %d stand %d, %d, %q, not %d", at, u, s, text, n)
		}
		at = end
	}
	if at != len(b) {
		t.Errorf("%d bytes were read of %d", at, len(b))
	}
}

package tests

import (
	"bytes"
	"strings"
	"testing"

	"loop.example/g00472/impl"
)

// lebNames: names of each count of bytes that a short length takes, of characters and of bytes that are none.
func lebNames() []string {
	l := []string{"", "a", "ab", "\x00", "\x80", "\xff\xfe", "\xc0\x80", "é€", "😀", "one two", "\n\t", "\x05abc"}
	for _, size := range []int{126, 127, 128, 129, 16383, 16384, 2097151, 2097152} {
		l = append(l, strings.Repeat("x", size))
	}
	return l
}

func TestPutNameByHand(t *testing.T) {
	for _, c := range []struct{ b, s, want string }{
		{"", "", "\x00"},
		{"", "ab", "\x02ab"},
		{"\x07", "ab", "\x07\x02ab"},
		{"\x80", "", "\x80\x00"},
		{"", "é", "\x02\xc3\xa9"},
		{"", "\xff", "\x01\xff"},
		{"b", "\x00\x00", "b\x02\x00\x00"},
		{"", strings.Repeat("a", 127), "\x7f" + strings.Repeat("a", 127)},
		{"", strings.Repeat("a", 128), "\x80\x01" + strings.Repeat("a", 128)},
		{"", strings.Repeat("é", 8192), "\x80\x80\x01" + strings.Repeat("é", 8192)},
	} {
		if b := impl.PutName([]byte(c.b), c.s); string(b) != c.want {
			t.Errorf("PutName of %.20q, %.20q is %.20q, not %.20q", c.b, c.s, b, c.want)
		}
	}
}

func TestNamesAreReadAsWritten(t *testing.T) {
	for _, ahead := range []string{"", "\x80", "\xff\xff\xff\xff\xff", "ahead"} {
		for _, behind := range []string{"", "\x00", "\xff\xff\xff\xff\xff", "behind"} {
			for _, s := range lebNames() {
				b := impl.PutName([]byte(ahead), s)
				if string(b) != ahead+string(wantPutU(len(s)))+s {
					t.Errorf("PutName of %q, %.20q is %.20q", ahead, s, b)
				}
				text, to, ok := impl.GetName(append(b, behind...), len(ahead))
				if text != s || to != len(b) || !ok {
					t.Errorf("GetName behind %q and ahead of %q is %.20q, %d, %v, not %.20q", ahead, behind, text, to, ok, s)
				}
			}
		}
	}
}

// A name's length may stand in more bytes than it takes, and what stands behind it needn't be characters.
func TestNamesWhoseLengthTakesMore(t *testing.T) {
	for _, s := range lebNames() {
		for count := len(wantPutU(len(s))); count <= 5; count++ {
			b := append(inPieces(len(s), count), s...)
			if text, to, ok := impl.GetName(b, 0); text != s || to != len(b) || !ok {
				t.Errorf("GetName of %.20q is %.20q, %d, %v", b, text, to, ok)
			}
		}
	}
}

func TestNamesThatAreNotAllThere(t *testing.T) {
	for _, s := range []string{
		"", "\x01", "\x02a", "\x7f", "\x05abcd", "\x80", "\x80\x80\x80\x80\x80\x00", "\x80\x80\x80\x80\x10",
		"\xff\xff\xff\xff\x0fabc", "\xff\xff\xff\xff\x0f", "\x80\x80\x80\x80\x08", "\xff\xff\xff\xff\x07abc", "\x81\x00", "\x81\x80\x80\x80\x00",
		"\x80\x01" + strings.Repeat("a", 127), "\xff\xff\xff\xff\x10abc", "\x80\x80\x80\x80\x80",
	} {
		if text, to, ok := impl.GetName([]byte(s), 0); text != "" || to != 0 || ok {
			t.Errorf("GetName of %.20q is %.20q, %d, %v, not nothing", s, text, to, ok)
		}
	}
	for _, s := range []string{"a", "ab", strings.Repeat("x", 130)} {
		b := impl.PutName([]byte{9, 9}, s)
		for size := range b {
			if text, to, ok := impl.GetName(b[:size], 2); text != "" || to != 0 || ok {
				t.Errorf("GetName of %.20q is %.20q, %d, %v, not nothing", b[:size], text, to, ok)
			}
		}
	}
}

// At each place of each short list: what GetName tells is what the length there and the bytes behind it say.
func TestNamesAtEachPlace(t *testing.T) {
	b := []byte{3, 'a', 0, 2, 128, 0, 255, 1, 129, 0, 5, 7, 6, 5, 4, 3, 2, 1, 0, 128}
	for size := range len(b) + 1 {
		for at := -2; at < size+3; at++ {
			part := bytes.Clone(b[:size])
			want, to := "", 0
			n := wantGetU(part, at)
			all := n.ok && n.at+n.n <= size
			if all {
				want, to = string(part[n.at:n.at+n.n]), n.at+n.n
			}
			if text, end, ok := impl.GetName(part, at); text != want || end != to || ok != all {
				t.Errorf("GetName of % x at %d is %q, %d, %v", part, at, text, end, ok)
			}
		}
	}
}

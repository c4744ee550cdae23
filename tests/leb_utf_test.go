package tests

import (
	"strings"
	"testing"

	"loop.example/g00472/impl"
)

// inForm: the character n in the form of size bytes, be it the shortest or not.
func inForm(n int, size int) string {
	if size == 1 {
		return string([]byte{byte(n)})
	}
	l := make([]byte, size)
	for i := size - 1; i > 0; i-- {
		l[i] = byte(128 + n%64)
		n /= 64
	}
	l[0] = byte([]int{0, 0, 192, 224, 240, 248, 252}[size] + n)
	return string(l)
}

// formHolds: how many characters the form of size bytes has room for.
func formHolds(size int) int {
	return []int{0, 128, 2048, 65536, 2097152, 67108864, 2147483648}[size]
}

// rightChar: n may be a character, and the form of size bytes is its shortest.
func rightChar(n int, size int) bool {
	shortest := n < formHolds(size) && (size == 1 || n >= formHolds(size-1))
	return shortest && n <= 1114111 && (n < 55296 || n > 57343)
}

func TestUtfOkByHand(t *testing.T) {
	for s, want := range map[string]bool{
		"": true, "a": true, "\x00": true, "\x7f": true, "é€": true, "aé€😀": true, "\n": true,
		"\xc2\x80": true, "\xdf\xbf": true, "\xe0\xa0\x80": true, "\xef\xbf\xbf": true, "\xf0\x90\x80\x80": true, "\xf4\x8f\xbf\xbf": true,
		"\xed\x9f\xbf": true, "\xee\x80\x80": true, "\xef\xbf\xbd": true, "a\xef\xbf\xbdb": true, "\xef\xbb\xbf": true,
		"\xed\xa0\x80": false, "\xed\xbf\xbf": false, "\xed\xa0\x80\xed\xb0\x80": false, "\xf4\x90\x80\x80": false, "\xf5\x80\x80\x80": false, "\xf7\xbf\xbf\xbf": false,
		"\xc0\x80": false, "\xc1\xbf": false, "\xe0\x80\x80": false, "\xe0\x9f\xbf": false, "\xf0\x80\x80\x80": false, "\xf0\x8f\xbf\xbf": false,
		"\xf8\x88\x80\x80\x80": false, "\xfc\x84\x80\x80\x80\x80": false, "\xfe": false, "\xff": false,
		"\x80": false, "\xbf": false, "a\x80": false, "\x80a": false, "é\x80": false,
		"\xc3": false, "\xe2\x82": false, "\xe2": false, "\xf0\x9f\x98": false, "\xf0\x9f": false, "\xf0": false, "a\xc3": false, "\xc3a": false, "\xe2\x82a": false,
		"\xef\xbf\xbd\xff": false, "\xff\xef\xbf\xbd": false, "\xef\xbf": false, "\xef\xbf\xbd\xef\xbf": false,
	} {
		if impl.UtfOk(s) != want {
			t.Errorf("UtfOk of %q isn't %v", s, want)
		}
	}
}

// Each number up to what four bytes hold, in each form that has room for it.
func TestUtfOkOfEachForm(t *testing.T) {
	for n := range formHolds(4) {
		for size := 1; size <= 4; size++ {
			if n < formHolds(size) && impl.UtfOk(inForm(n, size)) != rightChar(n, size) {
				t.Fatalf("UtfOk of the character %d in %d bytes isn't %v", n, size, rightChar(n, size))
			}
		}
	}
	for _, n := range []int{0, 65, 128, 65536, 1114111, 1114112, 2097152, 67108863} {
		for size := 5; size <= 6; size++ {
			if impl.UtfOk(inForm(n, size)) {
				t.Errorf("UtfOk of the character %d in %d bytes holds", n, size)
			}
		}
	}
}

// The edges that the chapter names, alone and between others, whole and cut short.
func TestUtfOkWithinTexts(t *testing.T) {
	for _, n := range []int{0, 65, 127, 128, 2047, 2048, 55295, 55296, 56320, 57343, 57344, 65533, 65535, 65536, 1114111, 1114112} {
		for size := 1; size <= 4; size++ {
			if n >= formHolds(size) {
				continue
			}
			char := inForm(n, size)
			for _, ahead := range []string{"", "a", "é", "€", "😀", "\uFFFD", strings.Repeat("long", 100)} {
				for _, behind := range []string{"", "a", "é", "€", "😀", "\uFFFD"} {
					if impl.UtfOk(ahead+char+behind) != rightChar(n, size) {
						t.Errorf("UtfOk of %.20q, %d in %d bytes, %q isn't %v", ahead, n, size, behind, rightChar(n, size))
					}
					for cut := 1; cut < size; cut++ {
						if impl.UtfOk(ahead+char[:cut]+behind) || impl.UtfOk(ahead+char[cut:]+behind) {
							t.Errorf("UtfOk of %.20q, a piece of %d in %d bytes, %q holds", ahead, n, size, behind)
						}
					}
				}
			}
		}
	}
}

// A character one of whose bytes doesn't go on, or goes on where it shouldn't.
func TestUtfOkOfOtherBytes(t *testing.T) {
	for _, n := range []int{128, 2047, 2048, 4096, 55295, 57344, 65535, 65536, 262144, 1048575, 1048576, 1114111} {
		size := 2
		for !rightChar(n, size) {
			size++
		}
		for at := 1; at < size; at++ {
			for other := range 256 {
				l := []byte(inForm(n, size))
				l[at] = byte(other)
				if goesOn := other >= 128 && other <= 191; !goesOn && impl.UtfOk(string(l)) {
					t.Errorf("UtfOk of % x holds", l)
				}
			}
		}
	}
}

// Each two bytes: both stand alone, or they are one character.
func TestUtfOkOfAllPairs(t *testing.T) {
	for a := range 256 {
		for b := range 256 {
			want := a < 128 && b < 128 || a >= 194 && a <= 223 && b >= 128 && b <= 191
			if s := string([]byte{byte(a), byte(b)}); impl.UtfOk(s) != want {
				t.Errorf("UtfOk of % x isn't %v", s, want)
			}
		}
	}
}

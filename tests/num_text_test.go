package tests

import (
	"math"
	"math/big"
	"regexp"
	"strings"
	"testing"

	"loop.example/g00472/impl"
)

func TestNumTextByHand(t *testing.T) {
	for _, c := range []struct {
		n    int
		want string
	}{
		{0, "0"},
		{7, "7"},
		{-7, "-7"},
		{10, "10"},
		{-1, "-1"},
		{1000000, "1000000"},
		{impl.MaxI, "2147483647"},
		{impl.MinI, "-2147483648"},
		{impl.MaxI + 1, "-2147483648"},
		{impl.MinI - 1, "2147483647"},
		{4294967295, "-1"},
		{4294967296, "0"},
		{-4294967296, "0"},
		{math.MaxInt, "-1"},
		{math.MinInt, "0"},
	} {
		if s := impl.NumText(c.n); s != c.want {
			t.Errorf("NumText(%d) is %q, not %q", c.n, s, c.want)
		}
	}
}

func TestTextsAreReadAsWritten(t *testing.T) {
	for _, n := range samples() {
		want := wantWrap(n)
		s := impl.NumText(n)
		if s != big.NewInt(int64(want)).String() {
			t.Errorf("NumText(%d) is %q", n, s)
		}
		if got, ok := impl.TextNum(s); got != want || !ok {
			t.Errorf("TextNum(%q) is %d, %v", s, got, ok)
		}
	}
}

func TestTextNumOfRightTexts(t *testing.T) {
	for s, want := range map[string]int{
		"0":           0,
		"9":           9,
		"10":          10,
		"-1":          -1,
		"-10":         -10,
		"2147483646":  2147483646,
		"2147483647":  impl.MaxI,
		"-2147483647": -2147483647,
		"-2147483648": impl.MinI,
	} {
		if n, ok := impl.TextNum(s); n != want || !ok {
			t.Errorf("TextNum(%q) is %d, %v", s, n, ok)
		}
	}
}

func TestTextNumOfWrongTexts(t *testing.T) {
	for _, s := range []string{
		"", "-", "+", "--", "-0", "+0", "00", "01", "-01", "-00", "007", "0000000000", "00000000001", "+1", "+2147483647", "-+1", "+-1", "--1", "1-",
		" ", " 1", "1 ", "1 2", "- 1", "\t1", "1\n", "\r1", "1\x00", "\x00",
		"2147483648", "2147483649", "-2147483649", "-2147483650", "4294967295", "4294967296", "-4294967296", "4294967297",
		"9223372036854775807", "-9223372036854775808", "9223372036854775808", "18446744073709551616", "18446744073709551621", "-18446744073709551617",
		"0x10", "0b1", "0o7", "1e3", "1.0", "1.", ".5", "1_000", "1,000", "a", "1a", "a1", "inf", "NaN", "nil",
		"٣", "１", "−1", "1\xff", "\xff", "①",
	} {
		wantNone(t, s)
	}
}

func TestTextNumOfLongTexts(t *testing.T) {
	const long = 1 << 20
	for _, s := range []string{
		strings.Repeat("9", long), "-" + strings.Repeat("9", long),
		strings.Repeat("0", long), strings.Repeat("0", long) + "1", "-" + strings.Repeat("0", long) + "1",
		"1" + strings.Repeat("0", long), strings.Repeat("-", long), strings.Repeat(" ", long) + "1", "1" + strings.Repeat(" ", long),
		strings.Repeat("\xff", long),
	} {
		wantNone(t, s)
	}
}

// Each text of up to four bytes out of those that a number, or what looks like one, is made of.
func TestTextNumOfAllShortTexts(t *testing.T) {
	right := regexp.MustCompile(`^(0|-?[1-9][0-9]*)$`)
	texts := []string{""}
	for at := 0; at < len(texts); at++ {
		s := texts[at]
		if len(s) < 4 {
			for _, c := range "-+0159 _x." {
				texts = append(texts, s+string(c))
			}
		}
		if !right.MatchString(s) {
			wantNone(t, s)
			continue
		}
		if n, ok := impl.TextNum(s); !ok || big.NewInt(int64(n)).String() != s || impl.NumText(n) != s {
			t.Errorf("TextNum(%q) is %d, %v", s, n, ok)
		}
	}
}

func wantNone(t *testing.T, s string) {
	t.Helper()
	if n, ok := impl.TextNum(s); n != 0 || ok {
		t.Errorf("TextNum of %.40q (%d bytes) is %d, %v, not nothing", s, len(s), n, ok)
	}
}

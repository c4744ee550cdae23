package impl

import (
	"math/bits"
	"strconv"
)

const MaxI = 2147483647
const MinI = -2147483648

// The codes of a division that has no answer.
const (
	codeZero = 2
	codeOver = 3
)

// The ops of Bits.
const (
	bitsAnd = iota + 1
	bitsOr
	bitsXor
	bitsLeft
	bitsRightSign
	bitsRightZeros
	bitsTurnLeft
	bitsTurnRight
)

// The ops of Compare.
const (
	isEqual = iota + 1
	isOther
	isLess
	isLessPlain
	isGreater
	isGreaterPlain
	isAtMost
	isAtMostPlain
	isAtLeast
	isAtLeastPlain
)

// word is a number of 32 bits. It stands on int32, whose sums, differences and
// products go round by themselves, so that no method has to cut what it makes.
type word int32

func wordOf(n int) word { return word(n) }

func (w word) number() int { return int(w) }

func (w word) plain() uint32 { return uint32(w) }

func (w word) add(v word) word { return w + v }

func (w word) sub(v word) word { return w - v }

func (w word) mul(v word) word { return w * v }

func (w word) divS(v word) (word, int) {
	if v == 0 {
		return 0, codeZero
	}
	if w == MinI && v == -1 {
		return 0, codeOver
	}
	return w / v, 0
}

func (w word) remS(v word) (word, int) {
	if v == 0 {
		return 0, codeZero
	}
	return w % v, 0
}

func (w word) divU(v word) (word, int) {
	if v == 0 {
		return 0, codeZero
	}
	return word(w.plain() / v.plain()), 0
}

func (w word) remU(v word) (word, int) {
	if v == 0 {
		return 0, codeZero
	}
	return word(w.plain() % v.plain()), 0
}

func (w word) onBits(op int, v word) word {
	by := v.plain() % 32
	switch op {
	case bitsAnd:
		return w & v
	case bitsOr:
		return w | v
	case bitsXor:
		return w ^ v
	case bitsLeft:
		return w << by
	case bitsRightSign:
		return w >> by
	case bitsRightZeros:
		return word(w.plain() >> by)
	case bitsTurnLeft:
		return word(bits.RotateLeft32(w.plain(), int(by)))
	case bitsTurnRight:
		return word(bits.RotateLeft32(w.plain(), -int(by)))
	}
	return 0
}

func (w word) compare(op int, v word) bool {
	switch op {
	case isEqual:
		return w == v
	case isOther:
		return w != v
	case isLess:
		return w < v
	case isLessPlain:
		return w.plain() < v.plain()
	case isGreater:
		return w > v
	case isGreaterPlain:
		return w.plain() > v.plain()
	case isAtMost:
		return w <= v
	case isAtMostPlain:
		return w.plain() <= v.plain()
	case isAtLeast:
		return w >= v
	case isAtLeastPlain:
		return w.plain() >= v.plain()
	}
	return false
}

func (w word) text() string { return strconv.Itoa(w.number()) }

func Wrap(n int) int { return wordOf(n).number() }

func Plain(n int) int { return int(wordOf(n).plain()) }

func Add(a int, b int) int { return wordOf(a).add(wordOf(b)).number() }

func Sub(a int, b int) int { return wordOf(a).sub(wordOf(b)).number() }

func Mul(a int, b int) int { return wordOf(a).mul(wordOf(b)).number() }

func DivS(a int, b int) (int, int) {
	w, code := wordOf(a).divS(wordOf(b))
	return w.number(), code
}

func RemS(a int, b int) (int, int) {
	w, code := wordOf(a).remS(wordOf(b))
	return w.number(), code
}

func DivU(a int, b int) (int, int) {
	w, code := wordOf(a).divU(wordOf(b))
	return w.number(), code
}

func RemU(a int, b int) (int, int) {
	w, code := wordOf(a).remU(wordOf(b))
	return w.number(), code
}

func Bits(op int, a int, b int) int { return wordOf(a).onBits(op, wordOf(b)).number() }

func Compare(op int, a int, b int) bool { return wordOf(a).compare(op, wordOf(b)) }

func Clz(n int) int { return bits.LeadingZeros32(wordOf(n).plain()) }

func Ctz(n int) int { return bits.TrailingZeros32(wordOf(n).plain()) }

func Pop(n int) int { return bits.OnesCount32(wordOf(n).plain()) }

func NumText(n int) string { return wordOf(n).text() }

func TextNum(s string) (int, bool) {
	n, err := strconv.ParseInt(s, 10, 32)
	// ParseInt also takes '+', "-0" and zeros ahead, which no NumText has.
	if err != nil || word(n).text() != s {
		return 0, false
	}
	return int(n), true
}

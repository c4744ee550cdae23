package tests

import (
	"math"
	"math/big"

	"loop.example/g00472/impl"
)

// edges: the numbers that chapter 2 names, those beside them, and those at the ends of int.
func edges() []int {
	const round = 1 << 32
	l := []int{0}
	for _, n := range []int{1, 2, 3, 7, 10, 31, 32, 33, 63, 64, 65, 255, 65535, 65536, 65537, 1 << 30} {
		l = append(l, n, -n)
	}
	for _, n := range []int{impl.MaxI, impl.MinI, round, -round, round + impl.MaxI, -round + impl.MinI, 3 * round, 1 << 40, -(1 << 40)} {
		l = append(l, n-1, n, n+1)
	}
	return append(l, math.MaxInt-1, math.MaxInt, math.MinInt, math.MinInt+1, math.MinInt+round-1)
}

// samples: the edges, and numbers spread over all of int by a fixed rule, of 32 bits and of more.
func samples() []int {
	l := edges()
	n := uint64(88172645463325252)
	for range 20 {
		n ^= n << 13
		n ^= n >> 7
		n ^= n << 17
		l = append(l, int(n), int(n>>40), int(n>>33)-(1<<30))
	}
	return l
}

// The helpers below are reckoned by big numbers and single bits, from the
// document's words, so that they share no way of reckoning with the program.

func plainBig(n *big.Int) int {
	return int(new(big.Int).Mod(n, big.NewInt(1<<32)).Int64())
}

func wrapBig(n *big.Int) int {
	p := plainBig(n)
	if p > impl.MaxI {
		return p - (1 << 32)
	}
	return p
}

func wantWrap(n int) int { return wrapBig(big.NewInt(int64(n))) }

func wantPlain(n int) int { return plainBig(big.NewInt(int64(n))) }

// bitsOf: the 32 bits of n, the lowest first.
func bitsOf(n int) [32]bool {
	var l [32]bool
	p := wantPlain(n)
	for i := range l {
		l[i] = p%2 == 1
		p /= 2
	}
	return l
}

func numberOf(l [32]bool) int {
	n := 0
	for i := 30; i >= 0; i-- {
		n *= 2
		if l[i] {
			n++
		}
	}
	if l[31] {
		n += impl.MinI
	}
	return n
}

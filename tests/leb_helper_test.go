package tests

import (
	"math"
	"math/big"

	"loop.example/g00472/impl"
)

// The helpers below are reckoned by big numbers, from the words of chapter 3,
// so that they share no way of reckoning with the program.

// stepsU: the plain numbers next to where one byte more is taken.
func stepsU() []int {
	l := []int{0, 1}
	for bits := 7; bits <= 28; bits += 7 {
		l = append(l, 1<<bits-2, 1<<bits-1, 1<<bits, 1<<bits+1)
	}
	return append(l, impl.MaxI, impl.MaxI+1, 1<<32-2, 1<<32-1)
}

// stepsS: the numbers with a sign next to where one byte more is taken.
func stepsS() []int {
	l := []int{0, 1, -1}
	for bits := 6; bits <= 27; bits += 7 {
		l = append(l, 1<<bits-2, 1<<bits-1, 1<<bits, 1<<bits+1, -(1<<bits)-2, -(1<<bits)-1, -(1 << bits), -(1<<bits)+1)
	}
	return append(l, impl.MaxI-1, impl.MaxI, impl.MinI, impl.MinI+1)
}

// lebNumbers: all of these, and numbers spread over all of int.
func lebNumbers() []int {
	return append(append(stepsU(), stepsS()...), samples()...)
}

// power: 2 to the bits.
func power(bits int) *big.Int { return new(big.Int).Lsh(big.NewInt(1), uint(bits)) }

// inPieces: n in count bytes, whatever it takes.
func inPieces(n int, count int) []byte {
	rest := new(big.Int).Mod(big.NewInt(int64(n)), power(7*count))
	var l []byte
	for range count {
		piece := new(big.Int)
		rest.DivMod(rest, big.NewInt(128), piece)
		l = append(l, byte(piece.Int64())+128)
	}
	l[count-1] -= 128
	return l
}

func wantPutU(n int) []byte {
	p, count := wantPlain(n), 1
	for big.NewInt(int64(p)).Cmp(power(7*count)) >= 0 {
		count++
	}
	return inPieces(p, count)
}

func wantPutS(n int) []byte {
	w, count := wantWrap(n), 1
	for {
		half := power(7*count - 1)
		v := big.NewInt(int64(w))
		if v.Cmp(half) < 0 && v.Cmp(new(big.Int).Neg(half)) >= 0 {
			return inPieces(w, count)
		}
		count++
	}
}

// got: what one of the reading functions tells.
type got struct {
	n, at int
	ok    bool
}

func gotU(b []byte, at int) got {
	n, to, ok := impl.GetU(b, at)
	return got{n, to, ok}
}

func gotS(b []byte, at int) got {
	n, to, ok := impl.GetS(b, at)
	return got{n, to, ok}
}

// wantGet: what stands at at, asked of the fifth byte as right says.
func wantGet(b []byte, at int, sign bool, right func(fifth byte) bool) got {
	if at < 0 || at >= len(b) {
		return got{}
	}
	sum := new(big.Int)
	for i := 0; i < 5; i++ {
		if at+i >= len(b) {
			return got{}
		}
		c := b[at+i]
		if i == 4 && !right(c) {
			return got{}
		}
		sum.Add(sum, new(big.Int).Mul(big.NewInt(int64(c%128)), power(7*i)))
		if c < 128 {
			if sign && c >= 64 {
				sum.Sub(sum, power(7*i+7))
			}
			return got{int(sum.Int64()), at + i + 1, true}
		}
	}
	return got{}
}

func wantGetU(b []byte, at int) got {
	return wantGet(b, at, false, func(c byte) bool { return c <= 15 })
}

func wantGetS(b []byte, at int) got {
	return wantGet(b, at, true, func(c byte) bool { return c <= 7 || c >= 120 && c <= 127 })
}

// noPlaces: places that no list of size bytes has.
func noPlaces(size int) []int {
	return []int{-1, -2, -5, -size, -size - 1, size, size + 1, size + 4, size + 5, impl.MaxI, impl.MinI, 1 << 32, -(1 << 32), math.MaxInt, math.MaxInt - 4, math.MinInt, math.MinInt + 4}
}

package tests

import (
	"math"
	"strings"

	"loop.example/g00472/impl"
)

// known: an operation by its number and its name, and which A and B it may
// have; they are written out here from WebAssembly's numbers, not from the program.
type known struct {
	op            int
	name          string
	count         int
	leastA, mostA int
	mostB         int
}

// knownOps: every operation of chapter 4, rising.
func knownOps() []known {
	l := []known{
		{0x00, "unreachable", 0, 0, 0, 0},
		{0x01, "nop", 0, 0, 0, 0},
		{0x02, "block", 1, 0, 1, 0},
		{0x03, "loop", 1, 0, 1, 0},
		{0x04, "if", 1, 0, 1, 0},
		{0x05, "else", 0, 0, 0, 0},
		{0x0b, "end", 0, 0, 0, 0},
		{0x0c, "br", 1, 0, 1000, 0},
		{0x0d, "br_if", 1, 0, 1000, 0},
		{0x0f, "return", 0, 0, 0, 0},
		{0x10, "call", 1, 0, 1000, 0},
		{0x1a, "drop", 0, 0, 0, 0},
		{0x1b, "select", 0, 0, 0, 0},
		{0x20, "local.get", 1, 0, 1000, 0},
		{0x21, "local.set", 1, 0, 1000, 0},
		{0x22, "local.tee", 1, 0, 1000, 0},
		{0x23, "global.get", 1, 0, 1000, 0},
		{0x24, "global.set", 1, 0, 1000, 0},
		{0x28, "i32.load", 2, 0, 1<<31 - 1, 2},
		{0x36, "i32.store", 2, 0, 1<<31 - 1, 2},
		{0x3f, "memory.size", 0, 0, 0, 0},
		{0x40, "memory.grow", 0, 0, 0, 0},
		{0x41, "i32.const", 1, -1 << 31, 1<<31 - 1, 0},
		{0x45, "i32.eqz", 0, 0, 0, 0},
	}
	l = append(l, inRow(0x46, "eq ne lt_s lt_u gt_s gt_u le_s le_u ge_s ge_u")...)
	l = append(l, inRow(0x67, "clz ctz popcnt")...)
	return append(l, inRow(0x6a, "add sub mul div_s div_u rem_s rem_u and or xor shl shr_s shr_u rotl rotr")...)
}

// inRow: operations on numbers whose numbers follow each other from first on.
func inRow(first int, names string) []known {
	var l []known
	for k, name := range strings.Split(names, " ") {
		l = append(l, known{op: first + k, name: "i32." + name})
	}
	return l
}

var knownByNumber = byNumber(knownOps())

func byNumber(l []known) map[int]known {
	m := map[int]known{}
	for _, k := range l {
		m[k.op] = k
	}
	return m
}

func knownOp(op int) (known, bool) {
	k, ok := knownByNumber[op]
	return k, ok
}

// ends: A or B at, just below and just above each end of what is asked, for
// any operation, and the ends of int.
func ends() []int {
	return []int{math.MinInt, -1 << 33, -1<<31 - 1, -1 << 31, -1<<31 + 1, -2, -1, 0, 1, 2, 3, 999, 1000, 1001, 1<<31 - 2, 1<<31 - 1, 1 << 31, 1 << 32, math.MaxInt}
}

// farOps: numbers far from any operation's.
func farOps() []int {
	return []int{math.MinInt, math.MinInt + 106, -1 << 32, -106, 1<<32 + 106, 1<<31 - 1, 256 + 106, math.MaxInt}
}

func wantInsOk(i impl.Ins) bool {
	k, ok := knownOp(i.Op)
	return ok && k.leastA <= i.A && i.A <= k.mostA && 0 <= i.B && i.B <= k.mostB
}

// rightIns: each operation at the ends of what it may have.
func rightIns() []impl.Ins {
	var l []impl.Ins
	for _, k := range knownOps() {
		for _, a := range ends() {
			for _, b := range []int{0, 1, 2} {
				if i := (impl.Ins{Op: k.op, A: a, B: b}); wantInsOk(i) {
					l = append(l, i)
				}
			}
		}
	}
	return l
}

// spelt: a shape by its letters: b, l, i begin a block, a loop, an if; s is an
// else, e an end, n a nop, ? no operation.
func spelt(s string) []impl.Ins {
	ops := map[rune]int{'b': impl.OpBlock, 'l': impl.OpLoop, 'i': impl.OpIf, 's': impl.OpElse, 'e': impl.OpEnd, 'n': impl.OpNop, '?': -7}
	l := make([]impl.Ins, 0, len(s))
	for _, c := range s {
		l = append(l, impl.Ins{Op: ops[c]})
	}
	return l
}

// spellings: every text of at most size letters out of letters.
func spellings(letters string, size int) []string {
	all := []string{""}
	from := 0
	for range size {
		to := len(all)
		for _, s := range all[from:to] {
			for _, c := range letters {
				all = append(all, s+string(c))
			}
		}
		from = to
	}
	return all
}

// without: s without any of the letters.
func without(s, letters string) string {
	return strings.Map(func(c rune) rune {
		if strings.ContainsRune(letters, c) {
			return -1
		}
		return c
	}, s)
}

// shrunk: s with each innermost pair taken out, again and again.
func shrunk(s string, pairs ...string) string {
	for {
		before := s
		for _, p := range pairs {
			s = strings.ReplaceAll(s, p, "")
		}
		if s == before {
			return s
		}
	}
}

func wantShape(s string) bool { return shrunk(without(s, "n?"), "be", "le", "ie", "ise") == "" }

// closed: each begin in s has its end in s and each end its begin, whatever the elses.
func closed(s string) bool { return shrunk(without(s, "n?s"), "be", "le", "ie") == "" }

func wantEnd(s string, at int) int {
	if at < 0 || at >= len(s) || !strings.ContainsRune("bli", rune(s[at])) {
		return -1
	}
	for end := at + 1; end < len(s); end++ {
		if s[end] == 'e' && closed(s[at+1:end]) {
			return end
		}
	}
	return -1
}

func wantElse(s string, at int) int {
	end := wantEnd(s, at)
	if end < 0 || s[at] != 'i' {
		return -1
	}
	for k := at + 1; k < end; k++ {
		if s[k] == 's' && closed(s[at+1:k]) {
			return k
		}
	}
	return -1
}

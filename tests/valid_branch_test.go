package tests

import (
	"strconv"
	"testing"
)

// nest: parts within one another, the outermost first, and how many values a
// branch to each takes; the function itself is ahead of all.
type nest struct {
	begins []string
	takes  []int
}

func nests() []nest {
	return []nest{
		{nil, nil},
		{[]string{"block 0"}, []int{0}},
		{[]string{"block 1"}, []int{1}},
		{[]string{"loop 0"}, []int{0}},
		{[]string{"loop 1"}, []int{0}},
		{[]string{"i32.const 1;if 0"}, []int{0}},
		{[]string{"i32.const 1;if 0;else"}, []int{0}},
		{[]string{"i32.const 1;if 1;i32.const 2;else"}, []int{1}},
		{[]string{"block 1", "loop 1"}, []int{1, 0}},
		{[]string{"loop 1", "block 1"}, []int{0, 1}},
		{[]string{"block 0", "block 1", "loop 0"}, []int{0, 1, 0}},
		{[]string{"loop 1", "i32.const 1;if 1;i32.const 2;else", "block 0", "loop 1"}, []int{0, 1, 0, 0}},
	}
}

// ahead: all that begins.
func (n nest) ahead() string { return joined(n.begins...) }

// behind: an end for each; what is outside dies there, so that it needs no results.
func (n nest) behind() string {
	text := ""
	for range n.begins {
		text = joined(text, "end", "unreachable")
	}
	return text
}

// takesOf: what a branch takes that goes out by depth parts.
func (n nest) takesOf(depth, results int) int {
	if depth == len(n.takes) {
		return results
	}
	return n.takes[len(n.takes)-1-depth]
}

// A branch to each that is open takes what that one asks, and no less; one beyond is none.
func TestBranches(t *testing.T) {
	for _, n := range nests() {
		for results := 0; results <= 1; results++ {
			for depth := 0; depth <= len(n.takes); depth++ {
				br := "br " + strconv.Itoa(depth)
				takes := n.takesOf(depth, results)
				wantRight(t, results, joined(n.ahead(), values(takes), br, n.behind()))
				wantRight(t, results, joined(n.ahead(), values(takes+2), br, n.behind()))
				if takes > 0 {
					less := joined(values(3), n.ahead())
					if len(n.takes) > 0 {
						wantFault(t, results, joined(less, br, n.behind()), places(less))
					}
					wantFault(t, results, joined(n.ahead(), br, n.behind()), places(n.ahead()))
				}
				wantRight(t, results, joined(n.ahead(), "unreachable", br, n.behind()))
			}
			for _, beyond := range []int{len(n.takes) + 1, len(n.takes) + 2, 1000} {
				br := "br " + strconv.Itoa(beyond)
				wantFault(t, results, joined(n.ahead(), values(1), br, n.behind()), places(n.ahead())+1)
				wantFault(t, results, joined(n.ahead(), "unreachable", br, n.behind()), places(n.ahead())+1)
			}
		}
	}
}

// A branch that may be taken takes one more, and leaves what it would have handed on.
func TestBranchesThatMayBeTaken(t *testing.T) {
	for _, n := range nests() {
		for results := 0; results <= 1; results++ {
			for depth := 0; depth <= len(n.takes); depth++ {
				br := "br_if " + strconv.Itoa(depth)
				takes := n.takesOf(depth, results)
				does := joined(n.ahead(), values(takes+1), br)
				wantRight(t, results, joined(does, drops(takes), "unreachable", n.behind()))
				wantFault(t, results, joined(does, drops(takes+1), "unreachable", n.behind()), places(does)+takes)
				more := joined(n.ahead(), values(takes+3), br)
				wantRight(t, results, joined(more, drops(takes+2), "unreachable", n.behind()))
				for less := 0; less <= takes; less++ {
					ahead := joined(n.ahead(), values(less))
					wantFault(t, results, joined(ahead, br, "unreachable", n.behind()), places(ahead))
				}
				dead := joined(n.ahead(), "unreachable", br, drops(3), "unreachable")
				wantRight(t, results, joined(dead, n.behind()))
			}
			for _, beyond := range []int{len(n.takes) + 1, 1000} {
				br := "br_if " + strconv.Itoa(beyond)
				wantFault(t, results, joined(n.ahead(), values(3), br, "unreachable", n.behind()), places(n.ahead())+3)
				wantFault(t, results, joined(n.ahead(), "unreachable", br, n.behind()), places(n.ahead())+1)
			}
		}
	}
}

// A branch that may be taken doesn't die; where it was dead, what it puts lies there.
func TestBehindBranchesThatMayBeTaken(t *testing.T) {
	wantRight(t, 1, "i32.const 1;i32.const 2;br_if 0")
	wantFault(t, 1, "i32.const 1;br_if 0", 1)
	wantFault(t, 0, "i32.const 1;br_if 0;drop", 2)
	wantFault(t, 0, "i32.const 1;i32.const 2;br_if 0", 3)
	wantRight(t, 1, "unreachable;br_if 0")
	wantFault(t, 1, "unreachable;br_if 0;i32.const 1", 3)
	wantFault(t, 1, "block 0;unreachable;br_if 1;end;i32.const 1", 3)
	wantRight(t, 1, "block 0;unreachable;br_if 1;drop;end;i32.const 1")
}

// A return takes the function's results, whatever is open, and kills what is open last alone.
func TestReturns(t *testing.T) {
	for _, n := range nests() {
		wantRight(t, 0, joined(n.ahead(), "return", n.behind()))
		wantRight(t, 0, joined(n.ahead(), values(3), "return", n.behind()))
		wantRight(t, 1, joined(n.ahead(), values(1), "return", n.behind()))
		wantRight(t, 1, joined(n.ahead(), values(3), "return", n.behind()))
		wantFault(t, 1, joined(n.ahead(), "return", n.behind()), places(n.ahead()))
		wantRight(t, 1, joined(n.ahead(), "unreachable;return", n.behind()))
		wantRight(t, 0, joined(n.ahead(), "unreachable;return", n.behind()))
		if len(n.takes) > 0 {
			wantFault(t, 1, joined(values(2), n.ahead(), "return", n.behind()), places(n.ahead())+2)
			wantFault(t, 1, joined("unreachable", n.ahead(), "return", n.behind()), places(n.ahead())+1)
		}
	}
	wantFault(t, 1, "block 0;i32.const 1;return;end", 4)
	wantRight(t, 1, "block 0;i32.const 1;return;end;i32.const 1")
	wantFault(t, 0, "block 0;return;end;drop", 3)
}

// A branch to a loop goes back, so it takes none, though the loop has a result.
func TestBranchesToLoops(t *testing.T) {
	wantRight(t, 1, "loop 1;br 0;end")
	wantRight(t, 1, "loop 1;i32.const 1;br_if 0;i32.const 2;end")
	wantFault(t, 1, "loop 1;i32.const 1;br_if 0;end", 3)
	wantRight(t, 1, "loop 1;i32.const 2;i32.const 1;br_if 0;end")
	wantFault(t, 1, "block 1;br 0;end", 1)
	wantFault(t, 1, "loop 1;block 1;br 0;end;end", 2)
	wantRight(t, 1, "loop 1;block 1;br 1;end;end")
	wantRight(t, 0, "loop 0;br 0;end")
}

// Behind what dies anything may be taken; what was laid ahead of it is gone.
func TestBehindWhatDies(t *testing.T) {
	for _, death := range []string{"unreachable", "br 0", "return"} {
		wantRight(t, 0, joined(death, "i32.add;drop"))
		wantRight(t, 0, joined(values(5), death))
		wantRight(t, 0, joined(values(5), death, "drop;drop;drop;drop;drop;drop"))
		wantFault(t, 0, joined(values(5), death, "i32.const 1"), 7)
		wantRight(t, 0, joined(death, "if 0;end"))
		wantRight(t, 0, joined(death, death, death))
		wantFault(t, 0, joined(death, "block 0;drop;end"), 2)
		wantFault(t, 0, joined(death, "loop 0;i32.eqz;drop;end"), 2)
		wantFault(t, 0, joined(death, "i32.const 1;if 0;drop;end"), 3)
		wantFault(t, 0, joined(death, "i32.const 1;if 0;else;drop;end"), 4)
		wantFault(t, 0, joined(death, "call 5"), 1)
		wantFault(t, 0, joined(death, "local.get 5;drop"), 1)
		wantFault(t, 0, joined(death, "local.set 5"), 1)
		wantFault(t, 0, joined(death, "global.get 2;drop"), 1)
		wantFault(t, 0, joined(death, "global.set 1"), 1)
		// What died lies within its own part: behind the end one is live, or dead, as one was outside.
		wantFault(t, 0, joined("block 0", death, "end;drop"), 3)
		wantRight(t, 0, joined(death, "block 0", death, "end;drop"))
		wantFault(t, 0, joined("block 0;block 0", death, "end;drop;end"), 4)
		wantFault(t, 0, joined("i32.const 4;block 0", death, "end"), 4)
		wantRight(t, 0, joined("i32.const 4;block 0", death, "end;drop"))
	}
}

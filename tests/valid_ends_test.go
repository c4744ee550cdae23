package tests

import "testing"

// The function's own end is at the Body's length: with just its results, with more, with fewer.
func TestFunctionsOwnEnd(t *testing.T) {
	for results := 0; results <= 1; results++ {
		for count := range 4 {
			want := -1
			if count != results {
				want = count
			}
			wantFault(t, results, values(count), want)
			text := joined("nop;block 0;end", values(count), "nop")
			if want != -1 {
				want = places(text)
			}
			wantFault(t, results, text, want)
		}
		for _, death := range []string{"unreachable", "i32.const 1;br 0", "i32.const 1;return"} {
			wantRight(t, results, death)
			wantRight(t, results, joined(death, values(results)))
			long := joined(death, values(results+1))
			wantFault(t, results, long, places(long))
		}
	}
	wantFault(t, 1, "", 0)
	wantRight(t, 0, "")
	wantFault(t, 1, "i32.const 1;drop", 2)
	wantFault(t, 1, "unreachable;nop;i32.const 1;i32.const 2", 4)
}

// opening: what begins a part of that kind.
func opening(kind string, results int) string {
	begins := map[string]string{
		"block": "block ", "loop": "loop ", "if": "i32.const 1;if ",
	}
	return begins[kind] + string(rune('0'+results))
}

// An end takes just the results: of a block, a loop, an if without results.
func TestEndsOfParts(t *testing.T) {
	for _, kind := range []string{"block", "loop", "if"} {
		for results := 0; results <= 1; results++ {
			for count := range 4 {
				for _, below := range []int{0, 2} {
					inside := joined(values(below), opening(kind, results), values(count))
					want := -1
					if count != results || kind == "if" && results == 1 {
						want = places(inside)
					}
					wantFault(t, 0, joined(inside, "end", drops(results), drops(below)), want)
				}
			}
		}
	}
}

// What died may end with fewer than its results, not with more; behind its end one is live again.
func TestEndsOfDeadParts(t *testing.T) {
	for _, kind := range []string{"block", "loop", "if"} {
		for _, death := range []string{"unreachable", "i32.const 5;br 0", "i32.const 4;return", "i32.const 3;i32.const 5;br 1"} {
			for results := 0; results <= 1; results++ {
				for count := range 4 {
					inside := joined(opening(kind, results), death, values(count))
					want := -1
					if count > results || kind == "if" && results == 1 {
						want = places(inside)
					}
					wantFault(t, 0, joined(inside, "end", drops(results)), want)
					if want == -1 {
						behind := joined(inside, "end", drops(results))
						wantFault(t, 0, joined(behind, "drop"), places(behind))
						wantFault(t, 1, behind, places(behind))
					}
				}
			}
		}
	}
}

// An else takes the results of what stands ahead of it, its end those of what stands behind it.
func TestElses(t *testing.T) {
	for results := 0; results <= 1; results++ {
		for first := range 4 {
			for second := range 4 {
				for _, below := range []int{0, 2} {
					ahead := joined(values(below), opening("if", results), values(first))
					all := joined(ahead, "else", values(second))
					want := -1
					switch {
					case first != results:
						want = places(ahead)
					case second != results:
						want = places(all)
					}
					wantFault(t, 0, joined(all, "end", drops(results), drops(below)), want)
				}
			}
		}
	}
}

// An else is live whatever died ahead of it; what dies behind it is dead up to the end.
func TestElsesOfDeadParts(t *testing.T) {
	for _, death := range []string{"unreachable", "i32.const 5;br 0", "i32.const 4;return", "i32.const 3;i32.const 5;br 1"} {
		for results := 0; results <= 1; results++ {
			begin := opening("if", results)
			for count := range 4 {
				dead := joined(begin, death, values(count))
				want := -1
				if count > results {
					want = places(dead)
				}
				wantFault(t, 0, joined(dead, "else", values(results), "end", drops(results)), want)

				live := joined(begin, death, "else", values(count))
				want = -1
				if count != results {
					want = places(live)
				}
				wantFault(t, 0, joined(live, "end", drops(results)), want)

				late := joined(begin, values(results), "else", death, values(count))
				want = -1
				if count > results {
					want = places(late)
				}
				wantFault(t, 0, joined(late, "end", drops(results)), want)
			}
			both := joined(begin, death, "else", death)
			wantRight(t, 0, joined(both, "end", drops(results)))
			wantFault(t, 0, joined(both, "end", drops(results), "drop"), places(both)+1+results)
			wantFault(t, 0, joined(begin, death, "else;drop;end", drops(results)), places(joined(begin, death))+1)
		}
	}
}

// An if without else has no result, whatever lies there at its end.
func TestIfWithoutElse(t *testing.T) {
	wantFault(t, 1, "i32.const 1;if 1;i32.const 2;end", 3)
	wantFault(t, 1, "i32.const 1;if 1;unreachable;end", 3)
	wantFault(t, 1, "i32.const 1;if 1;end", 2)
	wantFault(t, 1, "unreachable;if 1;i32.const 2;end", 3)
	wantFault(t, 1, "i32.const 1;if 1;i32.const 2;br 0;end", 4)
	wantRight(t, 1, "i32.const 1;if 1;i32.const 2;else;i32.const 3;end")
	wantRight(t, 0, "i32.const 1;if 0;end")
	wantRight(t, 0, "i32.const 1;if 0;else;end")
	wantRight(t, 0, "i32.const 1;if 0;nop;end")
	wantFault(t, 0, "i32.const 1;if 0;i32.const 2;end", 3)
	// The else of an if within, or of one ahead, is not its own.
	wantFault(t, 1, "i32.const 1;if 1;i32.const 1;if 1;i32.const 2;else;i32.const 3;end;end", 8)
	wantFault(t, 0, "i32.const 1;if 0;else;end;i32.const 1;if 1;i32.const 2;end;drop", 7)
	// A block or a loop with a result needs no else.
	wantRight(t, 1, "block 1;i32.const 2;end")
	wantRight(t, 1, "loop 1;i32.const 2;end")
}

// The results of what ended are the outer one's, and go on from there.
func TestResultsArePut(t *testing.T) {
	wantRight(t, 1, "block 1;block 1;loop 1;i32.const 1;end;end;end")
	wantRight(t, 1, "block 1;i32.const 1;end;loop 1;i32.const 2;end;i32.add")
	wantRight(t, 1, "i32.const 5;block 1;i32.const 1;end;i32.sub")
	wantFault(t, 0, "block 1;i32.const 1;end", 3)
	wantFault(t, 0, "block 0;block 1;i32.const 1;end;end", 4)
	wantRight(t, 1, "block 1;i32.const 1;if 0;unreachable;end;i32.const 2;end")
	wantRight(t, 1, "i32.const 1;if 1;block 1;i32.const 2;end;else;loop 1;i32.const 3;end;end")
	wantRight(t, 0, "unreachable;block 1;i32.const 1;end;drop;drop;drop")
	wantFault(t, 0, "unreachable;block 1;i32.const 1;end", 4)
}

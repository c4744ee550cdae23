package tests

import (
	"strings"
	"testing"

	"loop.example/g00472/impl"
)

// doer: an instruction that changes nothing but the height, with what it
// takes and puts.
type doer struct {
	text        string
	takes, puts int
}

// doers: each such operation, in the module of around; written out by hand.
func doers() []doer {
	l := []doer{
		{"nop", 0, 0},
		{"call 0", 0, 1}, {"call 1", 1, 0}, {"call 2", 2, 0}, {"call 3", 2, 1}, {"call 4", 3, 0},
		{"drop", 1, 0}, {"select", 3, 1},
		{"local.get 0", 0, 1}, {"local.get 4", 0, 1}, {"local.set 1", 1, 0}, {"local.set 2", 1, 0}, {"local.tee 0", 1, 1}, {"local.tee 4", 1, 1},
		{"global.get 0", 0, 1}, {"global.get 1", 0, 1}, {"global.set 0", 1, 0},
		{"i32.load 0 0", 1, 1}, {"i32.load 2147483647 2", 1, 1}, {"i32.store 0 0", 2, 0}, {"i32.store 9 1", 2, 0},
		{"memory.size", 0, 1}, {"memory.grow", 1, 1},
		{"i32.const 0", 0, 1}, {"i32.const -2147483648", 0, 1},
		{"i32.eqz", 1, 1}, {"i32.clz", 1, 1}, {"i32.ctz", 1, 1}, {"i32.popcnt", 1, 1},
	}
	two := "eq ne lt_s lt_u gt_s gt_u le_s le_u ge_s ge_u add sub mul div_s div_u rem_s rem_u and or xor shl shr_s shr_u rotl rotr"
	for _, name := range strings.Fields(two) {
		l = append(l, doer{"i32." + name, 2, 1})
	}
	return l
}

func TestDoersAreAllOperations(t *testing.T) {
	seen := map[string]bool{}
	for _, d := range doers() {
		seen[strings.Fields(d.text)[0]] = true
	}
	for _, name := range strings.Fields("unreachable block loop if else end br br_if return") {
		seen[name] = true
	}
	for _, k := range knownOps() {
		if !seen[k.name] {
			t.Errorf("%s lacks", k.name)
		}
	}
}

// Each operation goes with just what it takes, and with more; what it put is there, and no more.
func TestOperationsWithWhatTheyTake(t *testing.T) {
	for _, d := range doers() {
		for _, r := range rooms() {
			does := joined(r.ahead, values(d.takes), d.text)
			wantRight(t, 0, joined(does, drops(d.puts), r.behind))
			wantFault(t, 0, joined(does, drops(d.puts+1), r.behind), places(does)+d.puts)
			wantRight(t, 0, joined(r.ahead, values(d.takes+2), d.text, drops(d.puts+2), r.behind))
			if d.puts > 0 {
				kept := joined(does, drops(d.puts-1))
				wantFault(t, 0, joined(kept, r.behind), places(kept))
			}
			more := joined(r.ahead, values(d.takes+1), d.text, drops(d.puts))
			wantFault(t, 0, joined(more, r.behind), places(more))
		}
	}
}

// Each operation fails with one value less, also where others lie below the base.
func TestOperationsWithOneValueLess(t *testing.T) {
	for _, d := range doers() {
		for less := range d.takes {
			for _, r := range rooms() {
				ahead := joined(r.ahead, values(less))
				wantFault(t, 0, joined(ahead, d.text, drops(d.puts), r.behind), places(ahead))
				if r.ahead != "" {
					ahead = joined(values(5), r.ahead, values(less))
					wantFault(t, 0, joined(ahead, d.text, drops(d.puts), r.behind, drops(5)), places(ahead))
				}
			}
		}
	}
}

// Where nothing can be reached each operation goes with as many values as there are.
func TestOperationsThatAreDead(t *testing.T) {
	for _, d := range doers() {
		for _, r := range rooms() {
			for _, death := range deaths() {
				for count := 0; count <= d.takes; count++ {
					does := joined(r.ahead, death, values(count), d.text)
					wantRight(t, 0, joined(does, drops(d.puts), r.behind))
					wantRight(t, 0, joined(does, drops(d.puts+3), r.behind))
					if d.puts > 0 {
						kept := joined(does, drops(d.puts-1))
						wantFault(t, 0, joined(kept, r.behind), places(kept))
					}
				}
				more := joined(r.ahead, death, values(d.takes+1), d.text, drops(d.puts))
				wantFault(t, 0, joined(more, r.behind), places(more))
			}
		}
	}
}

// What is opened where nothing can be reached isn't dead itself: nothing is taken from below it.
func TestOperationsInWhatIsOpenedDead(t *testing.T) {
	for _, d := range doers() {
		for _, r := range rooms() {
			if r.ahead == "" {
				continue
			}
			for _, death := range deaths() {
				ahead := joined(death, r.ahead)
				wantRight(t, 0, joined(ahead, values(d.takes), d.text, drops(d.puts), r.behind))
				if d.takes > 0 {
					less := joined(ahead, values(d.takes-1))
					wantFault(t, 0, joined(less, d.text, drops(d.puts), r.behind), places(less))
				}
			}
		}
	}
}

// An if takes its condition from outside, live or dead, and its base lies below it.
func TestIfTakesOne(t *testing.T) {
	for _, r := range rooms() {
		wantRight(t, 0, joined(r.ahead, "i32.const 1;if 0;end", r.behind))
		wantRight(t, 0, joined(r.ahead, "i32.const 1;if 0;else;end", r.behind))
		wantFault(t, 0, joined(r.ahead, "if 0;end", r.behind), places(r.ahead))
		wantFault(t, 0, joined(r.ahead, "if 0;else;end", r.behind), places(r.ahead))
		wantFault(t, 0, joined(r.ahead, "if 1;i32.const 1;else;i32.const 2;end;drop", r.behind), places(r.ahead))
		wantRight(t, 0, joined(r.ahead, "unreachable;if 0;end", r.behind))
		wantRight(t, 0, joined(r.ahead, "i32.const 3;i32.const 1;if 0;nop;else;nop;end;drop", r.behind))
		wantFault(t, 0, joined(r.ahead, "i32.const 3;i32.const 1;if 0;drop;end", r.behind), places(r.ahead)+3)
		wantFault(t, 0, joined(r.ahead, "i32.const 3;i32.const 1;if 0;else;drop;end", r.behind), places(r.ahead)+4)
	}
	wantFault(t, 0, "i32.const 1;block 0;if 0;end;end;drop", 2)
	wantFault(t, 0, "unreachable;block 0;if 0;end;end", 2)
}

// A function takes as many as its Sig has Params, up to the most there may be.
func TestCallsWithManyParams(t *testing.T) {
	for params := 0; params <= impl.MaxLocals; params++ {
		for results := 0; results <= 1; results++ {
			m := around(t, 0, joined(values(params), "call 3", drops(results)))
			m.Sigs[3] = impl.Sig{Params: params, Results: results}
			m.Funcs[1].Body = bodyOf(t, values(results))
			wantTold(t, m, 0, -1, wantHeights(t, m))
			if params > 0 {
				m.Funcs[0].Body = bodyOf(t, joined(values(params-1), "call 3", drops(results)))
				wantTold(t, m, 0, params-1, nil)
			}
			m.Funcs[0].Body = bodyOf(t, joined(values(params+1), "call 3", drops(results)))
			wantTold(t, m, 0, len(m.Funcs[0].Body), nil)
		}
	}
}

// wantHeights: of a body of values that are laid, a call and what drops its results, the heights.
func wantHeights(t *testing.T, m impl.Module) []int {
	t.Helper()
	var l []int
	height := 0
	for _, i := range m.Funcs[0].Body {
		l = append(l, height)
		switch i.Op {
		case impl.OpConst:
			height++
		case impl.OpDrop:
			height--
		default:
			height = m.Sigs[3].Results
		}
	}
	return l
}

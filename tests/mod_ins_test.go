package tests

import (
	"testing"

	"loop.example/g00472/impl"
)

func TestInsOkAtEachEnd(t *testing.T) {
	ops := farOps()
	for op := -3; op <= 260; op++ {
		ops = append(ops, op)
	}
	for _, op := range ops {
		for _, a := range ends() {
			for _, b := range ends() {
				i := impl.Ins{Op: op, A: a, B: b}
				if impl.InsOk(i) != wantInsOk(i) {
					t.Errorf("InsOk(%+v) isn't %v", i, wantInsOk(i))
				}
			}
		}
	}
}

func TestInsOkOfEachAWithin(t *testing.T) {
	for _, k := range knownOps() {
		for a := -2; a <= 1003; a++ {
			i := impl.Ins{Op: k.op, A: a}
			if impl.InsOk(i) != wantInsOk(i) {
				t.Errorf("InsOk(%+v) isn't %v", i, wantInsOk(i))
			}
		}
	}
}

// A few of them written out, so that the table of the helper is held as well.
func TestInsOkWrittenOut(t *testing.T) {
	right := []impl.Ins{
		{}, {Op: impl.OpNop}, {Op: impl.OpBlock}, {Op: impl.OpIf, A: 1}, {Op: impl.OpBr, A: 1000}, {Op: impl.OpGSet, A: 0},
		{Op: impl.OpLoad, A: impl.MaxI, B: 2}, {Op: impl.OpStore}, {Op: impl.OpConst, A: impl.MinI}, {Op: impl.OpConst, A: impl.MaxI}, {Op: impl.OpRotr},
	}
	wrong := []impl.Ins{
		{Op: 6}, {Op: 121}, {Op: -1}, {Op: impl.OpTrap, A: 1}, {Op: impl.OpNop, B: 1}, {Op: impl.OpBlock, A: 2}, {Op: impl.OpLoop, A: -1}, {Op: impl.OpIf, B: 1},
		{Op: impl.OpCall, A: 1001}, {Op: impl.OpGet, A: -1}, {Op: impl.OpTee, A: 1, B: 1}, {Op: impl.OpLoad, B: 3}, {Op: impl.OpStore, A: -1},
		{Op: impl.OpLoad, A: impl.MaxI + 1}, {Op: impl.OpStore, B: -1}, {Op: impl.OpConst, A: impl.MinI - 1}, {Op: impl.OpConst, A: 1, B: 1}, {Op: impl.OpAdd, A: -1},
		{Op: impl.OpElse, A: 1}, {Op: impl.OpEnd, A: 1}, {Op: impl.OpSize, A: 1}, {Op: impl.OpGrow, B: -1}, {Op: impl.OpReturn, A: 1},
	}
	for _, i := range right {
		if !impl.InsOk(i) {
			t.Errorf("%+v is refused", i)
		}
	}
	for _, i := range wrong {
		if impl.InsOk(i) {
			t.Errorf("%+v is taken", i)
		}
	}
}

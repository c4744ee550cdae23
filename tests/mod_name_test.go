package tests

import (
	"slices"
	"strings"
	"testing"

	"loop.example/g00472/impl"
)

func TestEachOperationHasItsName(t *testing.T) {
	seen := map[string]int{}
	for _, k := range knownOps() {
		if name := impl.OpName(k.op); name != k.name {
			t.Errorf("OpName(%d) is %q, not %q", k.op, name, k.name)
		}
		if op := impl.NameOp(k.name); op != k.op {
			t.Errorf("NameOp(%q) is %d, not %d", k.name, op, k.op)
		}
		if other, twice := seen[k.name]; twice {
			t.Errorf("%q is the name of %d and of %d", k.name, other, k.op)
		}
		seen[k.name] = k.op
	}
}

func TestAllOtherNumbersHaveTheEmptyName(t *testing.T) {
	l := farOps()
	for op := -300; op <= 600; op++ {
		l = append(l, op)
	}
	for _, op := range l {
		k, _ := knownOp(op)
		if name := impl.OpName(op); name != k.name {
			t.Errorf("OpName(%d) is %q, not %q", op, name, k.name)
		}
	}
}

// The operations that the document names by a constant have the number that their name says.
func TestConstantsAreTheirOperations(t *testing.T) {
	consts := []int{impl.OpTrap, impl.OpNop, impl.OpBlock, impl.OpLoop, impl.OpIf, impl.OpElse, impl.OpEnd, impl.OpBr, impl.OpBrIf, impl.OpReturn, impl.OpCall, impl.OpDrop, impl.OpSelect, impl.OpGet, impl.OpSet, impl.OpTee, impl.OpGGet, impl.OpGSet, impl.OpLoad, impl.OpStore, impl.OpSize, impl.OpGrow, impl.OpConst, impl.OpEqz, impl.OpEq, impl.OpGeU, impl.OpClz, impl.OpPop, impl.OpAdd, impl.OpRotr}
	names := strings.Fields("unreachable nop block loop if else end br br_if return call drop select local.get local.set local.tee global.get global.set i32.load i32.store memory.size memory.grow i32.const i32.eqz i32.eq i32.ge_u i32.clz i32.popcnt i32.add i32.rotr")
	for k, op := range consts {
		if impl.OpName(op) != names[k] {
			t.Errorf("%d is %q, not %q", op, impl.OpName(op), names[k])
		}
	}
	if !slices.IsSorted(consts) {
		t.Error("the constants don't rise")
	}
}

// nearNames: texts that nearly are a name of an operation.
func nearNames(name string) []string {
	l := []string{
		name + " ", " " + name, name + ";", ";" + name, name + "\x00", "\x00" + name, name + "\n", name + "0", name + ".", "." + name,
		name[1:], name[:len(name)-1], strings.ToUpper(name), strings.ToUpper(name[:1]) + name[1:], name + name, name + " 0",
		strings.ReplaceAll(name, ".", "_"), strings.ReplaceAll(name, ".", ""), strings.ReplaceAll(name, "_", ""), strings.ReplaceAll(name, "_", "."),
		strings.TrimPrefix(name, "i32."), "i32." + name, "i64." + strings.TrimPrefix(name, "i32."), strings.ReplaceAll(name, "i32", "i33"), "local." + name,
	}
	return append(l, strings.ReplaceAll(name, "_s", "_t"), strings.ReplaceAll(name, "_u", "_U"), strings.Replace(name, name[len(name)-1:], "é", 1))
}

func TestNameOpOfOtherTexts(t *testing.T) {
	names := map[string]int{}
	for _, k := range knownOps() {
		names[k.name] = k.op
	}
	l := []string{"", " ", ";", "0", "-1", "x", "i32", "i32.", ".", "trap", "Ctz", "i32.load8_u", "i64.add", "br_table", "call_indirect", "memory", "get", "br if", "i32 add", strings.Repeat("nop", 1<<16)}
	for name := range names {
		l = append(l, nearNames(name)...)
	}
	for _, s := range l {
		want, is := names[s]
		if !is {
			want = -1
		}
		if op := impl.NameOp(s); op != want {
			t.Errorf("NameOp(%.40q) is %d, not %d", s, op, want)
		}
	}
}

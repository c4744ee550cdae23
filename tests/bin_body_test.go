package tests

import (
	"bytes"
	"slices"
	"testing"

	"loop.example/g00472/impl"
)

// wantBodyOf: the bytes are read as the document says of them.
func wantBodyOf(t *testing.T, b []byte) {
	t.Helper()
	want, right := wantBody(b)
	if l, ok := impl.ReadBody(b); ok != right || !slices.Equal(l, want) {
		t.Errorf("ReadBody of % .80x is %v, %v, not %v, %v", b, l, ok, want, right)
	}
}

// wantNoBodyOf: the bytes are no body's.
func wantNoBodyOf(t *testing.T, b []byte) {
	t.Helper()
	if l, ok := impl.ReadBody(b); ok || len(l) != 0 {
		t.Errorf("ReadBody of % .80x is %v, %v", b, l, ok)
	}
}

// wantBodyBytes: the body has these bytes, and they are read as that body.
func wantBodyBytes(t *testing.T, l []impl.Ins, want []byte) {
	t.Helper()
	if b := impl.BodyBytes(l); !bytes.Equal(b, want) {
		t.Errorf("BodyBytes of %d instructions are % .80x, not % .80x", len(l), b, want)
	}
	if back, ok := impl.ReadBody(want); !ok || !slices.Equal(back, l) {
		t.Errorf("ReadBody of % .80x is %d instructions, %v", want, len(back), ok)
	}
}

func TestBodyBytesByHand(t *testing.T) {
	for s, want := range map[string]string{
		"": "", "nop": "\x01", "unreachable;return;drop;select": "\x00\x0f\x1a\x1b",
		"block 0;loop 1;if 0;else;end":                                     "\x02\x40\x03\x7f\x04\x40\x05\x0b",
		"br 0;br_if 127;call 128":                                          "\x0c\x00\x0d\x7f\x10\x80\x01",
		"local.get 1000;local.set 1;local.tee 2;global.get 3;global.set 4": "\x20\xe8\x07\x21\x01\x22\x02\x23\x03\x24\x04",
		"i32.load 5 2;i32.store 2147483647 0":                              "\x28\x02\x05\x36\x00\xff\xff\xff\xff\x07",
		"memory.size;memory.grow":                                          "\x3f\x00\x40\x00",
		"i32.const -1;i32.const 64;i32.const -2147483648":                  "\x41\x7f\x41\xc0\x00\x41\x80\x80\x80\x80\x78",
		"i32.eqz;i32.eq;i32.ge_u;i32.clz;i32.popcnt;i32.add;i32.rotr":      "\x45\x46\x4f\x67\x69\x6a\x78",
	} {
		l, ok := impl.TextBody(s)
		if !ok {
			t.Fatalf("%q is no text of a body", s)
		}
		wantBodyBytes(t, l, []byte(want))
	}
}

func TestBodiesAreReadAsWritten(t *testing.T) {
	all := rightIns()
	for _, i := range all {
		wantBodyBytes(t, []impl.Ins{i}, shortest().ins(i))
	}
	wantBodyBytes(t, all, shortest().body(all))
	for k := range all {
		l := []impl.Ins{all[k], all[(k*7+3)%len(all)], all[(k*11+5)%len(all)]}
		wantBodyBytes(t, l, shortest().body(l))
	}
	// Neither of them asks for a shape.
	for _, s := range spellings("blisen", 4) {
		wantBodyBytes(t, spelt(s), shortest().body(spelt(s)))
	}
}

func TestBodiesWhoseNumbersTakeMore(t *testing.T) {
	for count := 2; count <= 5; count++ {
		for _, i := range rightIns() {
			b := atLeast(count).ins(i)
			if l, ok := impl.ReadBody(b); !ok || !slices.Equal(l, []impl.Ins{i}) {
				t.Errorf("ReadBody of % x is %v, %v, not %v", b, l, ok, i)
			}
			wantBodyBytes(t, []impl.Ins{i}, shortest().ins(i))
		}
	}
	for _, s := range []string{"\x0c\x80\x80\x80\x80\x80\x00", "\x0c\x80\x80\x80\x80\x10", "\x41\x80\x80\x80\x80\x80\x00", "\x41\xff\xff\xff\xff\x08", "\x41\x80\x80\x80\x80\x40", "\x28\x80\x80\x80\x80\x80\x00\x00", "\x28\x00\x80\x80\x80\x80\x80\x00"} {
		wantNoBodyOf(t, []byte(s))
	}
}

// A wrong instruction anywhere leaves nothing.
func TestBodyBytesOfWrongInstructions(t *testing.T) {
	for _, op := range append(farOps(), -1, 0, 2, 6, 11, 12, 14, 28, 40, 54, 63, 65, 68, 80, 120, 121, 256, 257) {
		for _, a := range ends() {
			for _, b := range ends() {
				i, right := impl.Ins{Op: op, A: a, B: b}, impl.Ins{Op: impl.OpNop}
				if wantInsOk(i) {
					continue
				}
				for _, l := range [][]impl.Ins{{i}, {right, i}, {i, right}} {
					if got := impl.BodyBytes(l); len(got) != 0 {
						t.Errorf("BodyBytes(%+v) are % x", l, got)
					}
				}
			}
		}
	}
}

func TestBodiesOfManyInstructions(t *testing.T) {
	for _, i := range []impl.Ins{{Op: impl.OpNop}, {Op: impl.OpConst, A: impl.MinI}, {Op: impl.OpEnd}} {
		for _, count := range []int{1499, 1500} {
			l := times(i, count)
			wantBodyBytes(t, l, shortest().body(l))
		}
		for _, count := range []int{1501, 1502, 3000, 100000} {
			b := shortest().body(times(i, count))
			if got := impl.BodyBytes(times(i, count)); !bytes.Equal(got, b) {
				t.Errorf("BodyBytes of %d instructions are %d bytes", count, len(got))
			}
			wantNoBodyOf(t, b)
		}
	}
}

// Bytes cut off within an instruction, and bytes behind, are no body's.
func TestBodiesCutOff(t *testing.T) {
	for _, i := range rightIns() {
		for _, s := range []style{shortest(), atLeast(5)} {
			b := s.ins(i)
			for size := 1; size < len(b); size++ {
				wantNoBodyOf(t, b[:size])
				wantNoBodyOf(t, append([]byte{1}, b[:size]...))
			}
			for _, behind := range []byte{6, 14, 17, 80, 121, 255} {
				wantNoBodyOf(t, append(slices.Clone(b), behind))
			}
		}
	}
}

// Numbers that are read, but that InsOk doesn't take there.
func TestBodiesWithNumbersOutside(t *testing.T) {
	for _, k := range knownOps() {
		if k.count == 0 || k.mostA == 1 || k.name == "i32.const" {
			continue
		}
		outside := impl.Ins{Op: k.op, A: k.mostA + 1}
		wantNoBodyOf(t, shortest().ins(outside))
		outside.A = 1<<32 - 1
		wantNoBodyOf(t, shortest().ins(outside))
		if k.count == 2 {
			for _, align := range []int{3, 4, 128, 1<<32 - 1} {
				wantNoBodyOf(t, shortest().ins(impl.Ins{Op: k.op, B: align}))
			}
		}
	}
}

// All short bytes: each operation with each byte behind, and more.
func TestAllShortBodies(t *testing.T) {
	wantBodyOf(t, nil)
	for a := range 256 {
		wantBodyOf(t, []byte{byte(a)})
		for b := range 256 {
			wantBodyOf(t, []byte{byte(a), byte(b)})
			for _, c := range []byte{0, 1, 2, 3, 8, 11, 64, 65, 127, 128, 255} {
				wantBodyOf(t, []byte{byte(a), byte(b), c})
			}
		}
	}
}

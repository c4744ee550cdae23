package tests

import (
	"bytes"
	"reflect"
	"slices"
	"testing"

	"loop.example/g00472/impl"
)

// allOfModule: what each function of chapter 5 on modules tells of m.
func allOfModule(m impl.Module) []any {
	b, ok := impl.ModuleBytes(m)
	return []any{bytes.Clone(b), ok, impl.SameModule(m, m), impl.SameModule(m, noMemory()), impl.SameModule(noMemory(), m)}
}

// allOfBytes: what each function of chapter 5 on bytes tells of b.
func allOfBytes(b []byte) []any {
	m, code := impl.ReadModule(b)
	l, ok := impl.ReadBody(b)
	numbers, also := impl.Sections(b)
	return []any{nilled(m), code, nilIfEmpty(l), ok, nilIfEmpty(numbers), also}
}

func TestModulesAreLeftAsTheyWereByBytes(t *testing.T) {
	wrong := wholeModule()
	wrong.Funcs[0].Body[0].A = 2
	for k, m := range append(ownModules(), wrong) {
		kept := copied(m)
		first := allOfModule(m)
		if !reflect.DeepEqual(m, kept) {
			t.Errorf("module %d was changed", k)
		}
		if !reflect.DeepEqual(allOfModule(m), first) || !reflect.DeepEqual(allOfModule(kept), first) {
			t.Errorf("of module %d something else is told the next time, or of its copy", k)
		}
	}
}

// someBytes: bytes of modules and of bodies, right and wrong.
func someBytes() [][]byte {
	l := [][]byte{nil, {}, {1, 1, 1}, {0x41}, []byte(headBytes), []byte(headBytes + "\x01"), []byte(headBytes + "\x01\x01\x01"), functions(1, 2), functions(61, 61)}
	for _, m := range []impl.Module{wholeModule(), opsModule(), smallModule()} {
		l = append(l, shortest().module(m), atLeast(3).module(m), shortest().body(m.Funcs[0].Body))
	}
	return l
}

func TestBytesAreLeftAsTheyWere(t *testing.T) {
	for k, b := range someBytes() {
		all := append(slices.Clone(b), 1, 0, 11, 255)
		room := all[:len(b)]
		kept := bytes.Clone(all)
		first := allOfBytes(room)
		if !bytes.Equal(all, kept) {
			t.Errorf("bytes %d were changed, or what lies behind them", k)
		}
		if !reflect.DeepEqual(allOfBytes(room), first) || !reflect.DeepEqual(allOfBytes(slices.Clip(bytes.Clone(b))), first) {
			t.Errorf("of bytes %d something else is told the next time, or without the room behind them", k)
		}
	}
}

func TestNilAndEmptyBytesAreOne(t *testing.T) {
	if !reflect.DeepEqual(allOfBytes(nil), allOfBytes([]byte{})) {
		t.Error("nil is told from no bytes")
	}
	if l, ok := impl.ReadBody(nil); len(l) != 0 || !ok {
		t.Errorf("ReadBody of nil is %v, %v", l, ok)
	}
	if len(impl.BodyBytes(nil)) != 0 || len(impl.BodyBytes([]impl.Ins{})) != 0 {
		t.Error("BodyBytes of no instructions are some")
	}
}

// What is written into the bytes behind the call isn't seen in what was read.
func TestReadModuleSharesNoMemoryWithItsBytes(t *testing.T) {
	for _, m := range ownModules() {
		b := shortest().module(m)
		got, _ := impl.ReadModule(b)
		l, _ := impl.Sections(b)
		numbers := slices.Clone(l)
		spoil(b)
		if !alike(got, m) || !slices.Equal(l, numbers) {
			t.Errorf("what is written into the bytes is seen in %+v or in %v", got, l)
		}
	}
}

// What is written into a module behind the call isn't seen in its bytes, nor the other way round.
func TestModuleBytesShareNoMemoryWithTheModule(t *testing.T) {
	m := wholeModule()
	b, _ := impl.ModuleBytes(m)
	again, _ := impl.ModuleBytes(m)
	kept := bytes.Clone(b)
	spoil(again)
	if !bytes.Equal(b, kept) || !reflect.DeepEqual(m, wholeModule()) {
		t.Error("what is written into an answer is seen in another or in the module")
	}
	for _, d := range m.Data {
		spoil(d.Bytes)
	}
	fill(m.Funcs[0].Body, impl.Ins{Op: 99})
	if !bytes.Equal(b, kept) {
		t.Error("what is written into the module is seen in its bytes")
	}
}

// fill writes v into all of l and into the room behind it.
func fill[T any](l []T, v T) {
	l = l[:cap(l)]
	for k := range l {
		l[k] = v
	}
}

// lists: for each list of m a function that writes over it and the room behind it.
func lists(m impl.Module) []func() {
	l := []func(){
		func() { fill(m.Sigs, impl.Sig{Params: 99}) },
		func() { fill(m.Imports, impl.Import{Mod: "?"}) },
		func() { fill(m.Globals, impl.Global{Init: 99}) },
		func() { fill(m.Exports, impl.Export{Name: "?"}) },
		func() { fill(m.Funcs, impl.Func{Sig: 99}) },
		func() { fill(m.Data, impl.Data{At: 99}) },
	}
	for _, f := range m.Funcs {
		l = append(l, func() { fill(f.Body, impl.Ins{Op: 99}) })
	}
	for _, d := range m.Data {
		l = append(l, func() { fill(d.Bytes, 99) })
	}
	return l
}

// told: each list of m by itself, as deep as the list itself goes.
func told(m impl.Module) []any {
	l := []any{slices.Clone(m.Sigs), slices.Clone(m.Imports), slices.Clone(m.Globals), slices.Clone(m.Exports)}
	var funcs, data []int
	for _, f := range m.Funcs {
		funcs = append(funcs, f.Sig, f.Locals, len(f.Body))
	}
	for _, d := range m.Data {
		data = append(data, d.At, len(d.Bytes))
	}
	l = append(l, funcs, data)
	for _, f := range m.Funcs {
		l = append(l, slices.Clone(f.Body))
	}
	for _, d := range m.Data {
		l = append(l, bytes.Clone(d.Bytes))
	}
	return l
}

// Writing over one list of an answer, and the room behind it, changes no other list of it.
func TestListsOfOneModuleShareNoMemory(t *testing.T) {
	m := wholeModule()
	m.Funcs = []impl.Func{{Body: spelt("n")}, {Body: spelt("nn")}, {Body: spelt("benn")}}
	m.Data = []impl.Data{{Bytes: []byte{1}}, {Bytes: []byte{2, 3}}, {At: 5, Bytes: []byte{4}}}
	b := shortest().module(m)
	whole, code := impl.ReadModule(b)
	if code != 0 {
		t.Fatalf("code %d", code)
	}
	for k := range lists(whole) {
		got, _ := impl.ReadModule(b)
		before := told(got)
		kept := got
		kept.Funcs, kept.Data = slices.Clone(got.Funcs), slices.Clone(got.Data)
		lists(got)[k]()
		after := told(impl.Module{Sigs: got.Sigs, Imports: got.Imports, Funcs: kept.Funcs, Globals: got.Globals, Exports: got.Exports, Data: kept.Data})
		for at := range before {
			if at != k && !reflect.DeepEqual(before[at], after[at]) {
				t.Errorf("writing over list %d changed list %d", k, at)
			}
		}
	}
	if again, _ := impl.ReadModule(b); !alike(again, m) || !alike(whole, m) {
		t.Error("writing over one answer changed another")
	}
}

func TestBodiesOfBytesAreNewEachTime(t *testing.T) {
	b := []byte("\x41\x05\x1a\x01")
	first, _ := impl.ReadBody(b)
	again, _ := impl.ReadBody(b)
	fill(first, impl.Ins{Op: 99})
	if impl.BodyText(again) != "i32.const 5;drop;nop" || string(b) != "\x41\x05\x1a\x01" {
		t.Errorf("what is written into an answer is seen in another: %v, % x", again, b)
	}
	bytesOf, other := impl.BodyBytes(again), impl.BodyBytes(again)
	spoil(bytesOf)
	if !bytes.Equal(other, b) || impl.BodyText(again) != "i32.const 5;drop;nop" {
		t.Errorf("what is written into bytes is seen elsewhere: % x, %v", other, again)
	}
	spoil(b)
	if impl.BodyText(again) != "i32.const 5;drop;nop" {
		t.Errorf("what is written into the bytes is seen in the body: %v", again)
	}
	l, _ := impl.Sections(shortest().module(wholeModule()))
	m, _ := impl.Sections(shortest().module(wholeModule()))
	fill(l, 99)
	if !slices.Equal(m, sectionOrder()) {
		t.Errorf("what is written into Sections is seen in the next: %v", m)
	}
}

// Long bytes, and counts of more than there are, are gone through within a moment.
func TestLongBytes(t *testing.T) {
	const long = 1 << 20
	for _, c := range []byte{0, 1, 2, 11, 65, 96, 127, 128, 255} {
		run := bytes.Repeat([]byte{c}, long)
		wantCode(t, "long", append([]byte(headBytes), run...), 2)
		for _, number := range sectionOrder() {
			for _, count := range []string{"", "\xff\xff\xff\xff\x0f", "\x80\x80\x40"} {
				b := ofChunks(chunk{number, append([]byte(count), run...)})
				if _, code := impl.ReadModule(b); code < 3 || code > 5 {
					t.Errorf("section %d of many bytes %d has code %d", number, c, code)
				}
			}
		}
		if l, ok := impl.ReadBody(run); ok || len(l) != 0 {
			t.Errorf("ReadBody of many bytes %d is %d instructions", c, len(l))
		}
	}
	many := ofChunks(chunk{1, []byte("\x01\x60\x00\x00")}, chunk{3, append([]byte("\x80\x80\x40"), make([]byte, long)...)})
	wantCode(t, "many functions without bodies", many, 4)
}

package tests

import (
	"bytes"
	"testing"

	"loop.example/g00472/impl"
)

// wantBytes: the module's bytes are these.
func wantBytes(t *testing.T, what string, m impl.Module, want []byte) {
	t.Helper()
	if b, ok := impl.ModuleBytes(m); !ok || !bytes.Equal(b, want) {
		t.Errorf("%s: % .200x, %v, not % .200x", what, b, ok, want)
	}
}

// Modules with one kind of part each, their bytes written out.
func TestModuleBytesByHand(t *testing.T) {
	m := noMemory()
	wantBytes(t, "nothing", m, []byte("\x00asm\x01\x00\x00\x00"))
	m.Sigs = []impl.Sig{{}, {Params: 2, Results: 1}}
	wantBytes(t, "Sigs", m, []byte(headBytes+"\x01\x0a\x02\x60\x00\x00\x60\x02\x7f\x7f\x01\x7f"))
	sigs := "\x01\x04\x01\x60\x00\x00"
	m.Sigs = m.Sigs[:1]
	m.Imports = []impl.Import{{Mod: "ab", Name: "é", Sig: 0}, {}}
	wantBytes(t, "Imports", m, []byte(headBytes+sigs+"\x02\x0d\x02\x02ab\x02é\x00\x00\x00\x00\x00\x00"))
	m.Imports = nil
	m.Funcs = []impl.Func{{}, {Locals: 2, Body: []impl.Ins{{Op: impl.OpNop}}}}
	wantBytes(t, "Funcs", m, []byte(headBytes+sigs+"\x03\x03\x02\x00\x00\x0a\x0a\x02\x02\x00\x0b\x05\x01\x02\x7f\x01\x0b"))
	m = noMemory()
	m.Globals = []impl.Global{{Init: -1}, {Mut: true, Init: 64}}
	wantBytes(t, "Globals", m, []byte(headBytes+"\x06\x0c\x02\x7f\x00\x41\x7f\x0b\x7f\x01\x41\xc0\x00\x0b"))
	m = noMemory()
	m.Exports = []impl.Export{{Name: "f", Index: 128}, {Name: "", Kind: 2}, {Name: "xyz", Kind: 3, Index: 1}}
	wantBytes(t, "Exports", m, []byte(headBytes+"\x07\x0f\x03\x01f\x00\x80\x01\x00\x02\x00\x03xyz\x03\x01"))
	m = noMemory()
	m.Data = []impl.Data{{At: -64, Bytes: []byte{7, 255}}, {At: 63}}
	wantBytes(t, "Data", m, []byte(headBytes+"\x0b\x0d\x02\x00\x41\x40\x0b\x02\x07\xff\x00\x41\x3f\x0b\x00"))
}

func TestModuleBytesOfMemories(t *testing.T) {
	for _, c := range []struct {
		pages, most int
		want        string
	}{
		{-1, -1, ""},
		{0, -1, "\x05\x03\x01\x00\x00"},
		{2, -1, "\x05\x03\x01\x00\x02"},
		{0, 0, "\x05\x04\x01\x01\x00\x00"},
		{1, 127, "\x05\x04\x01\x01\x01\x7f"},
		{1, 128, "\x05\x05\x01\x01\x01\x80\x01"},
		{2, 65536, "\x05\x06\x01\x01\x02\x80\x80\x04"},
	} {
		wantBytes(t, "a memory", impl.Module{Pages: c.pages, Most: c.most}, []byte(headBytes+c.want))
	}
}

// Locals stand in no list or in one, whatever their number.
func TestModuleBytesOfLocals(t *testing.T) {
	for locals := 0; locals <= 60; locals++ {
		m := noMemory()
		m.Sigs, m.Funcs = []impl.Sig{{}}, []impl.Func{{Locals: locals}}
		want := "\x0a\x06\x01\x04\x01" + string(rune(locals)) + "\x7f\x0b"
		if locals == 0 {
			want = "\x0a\x04\x01\x02\x00\x0b"
		}
		wantBytes(t, "Locals", m, []byte(headBytes+"\x01\x04\x01\x60\x00\x00\x03\x02\x01\x00"+want))
	}
}

// The tests' own writer has the same bytes, for every module.
func TestModuleBytesOfManyModules(t *testing.T) {
	for k, m := range ownModules() {
		wantBytes(t, "module "+impl.NumText(k), m, shortest().module(m))
	}
}

// subset: the whole module with those of its eight kinds of parts whose bit is set.
func subset(which int) impl.Module {
	m := wholeModule()
	has := func(bit int) bool { return which>>bit&1 == 1 }
	if !has(0) {
		m.Sigs = nil
	}
	if !has(1) {
		m.Imports = nil
	}
	if !has(2) {
		m.Funcs = nil
	}
	if !has(3) {
		m.Pages, m.Most = -1, -1
	} else if !has(4) {
		m.Most = -1
	}
	if !has(5) {
		m.Globals = nil
	}
	if !has(6) {
		m.Exports = nil
	}
	if !has(7) {
		m.Data = nil
	}
	return m
}

// subsets: all of them whose form is right.
func subsets() []impl.Module {
	var l []impl.Module
	for which := range 1 << 8 {
		if m := subset(which); which&1 == 1 || which&6 == 0 {
			l = append(l, m)
		}
	}
	return l
}

func TestModuleBytesOfEachSubset(t *testing.T) {
	for k, m := range subsets() {
		wantBytes(t, "subset "+impl.NumText(k), m, shortest().module(m))
	}
}

// Where the form isn't right there are no bytes.
func TestModuleBytesOfWrongForms(t *testing.T) {
	wrong := []impl.Module{{Pages: 3, Most: -1}, {Pages: -1}, {Pages: -2, Most: -1}, {Pages: 1}, {Most: 65537}, {Data: []impl.Data{{At: impl.MaxI + 1}}}}
	for _, f := range fieldCases() {
		for _, n := range append(ends(), f.least-1, f.most+1) {
			m := wholeModule()
			f.set(&m, n)
			if n < f.least || n > f.most {
				wrong = append(wrong, m)
			}
		}
	}
	for _, m := range wrong {
		if b, ok := impl.ModuleBytes(m); ok || len(b) != 0 {
			t.Errorf("of %+v % .80x, %v", m, b, ok)
		}
	}
}

package tests

import (
	"reflect"
	"slices"
	"strings"
	"testing"

	"loop.example/g00472/impl"
)

// headBytes: the eight bytes ahead of all sections.
const headBytes = "\x00asm\x01\x00\x00\x00"

// sectionOrder: the numbers of the sections that there are, in order.
func sectionOrder() []int { return []int{1, 2, 3, 5, 6, 7, 10, 11} }

// style: how numbers and lists are put into bytes by the tests' own writer: as
// the document's writer does it, or otherwise, as far as a reader must take it.
type style struct {
	plain  func(n int) []byte
	signed func(n int) []byte
	locals func(n int) []int
	empty  bool
}

func shortest() style {
	return style{plain: wantPutU, signed: wantPutS, locals: func(n int) []int { return times(n, one(n > 0)) }}
}

// atLeast: numbers in count bytes, or in as many as they take where these are more.
func atLeast(count int) style {
	s := shortest()
	s.plain = func(n int) []byte { return inPieces(n, max(count, len(wantPutU(n)))) }
	s.signed = func(n int) []byte { return inPieces(n, max(count, len(wantPutS(n)))) }
	return s
}

func (s style) name(text string) []byte { return append(s.plain(len(text)), text...) }

func (s style) sized(b []byte) []byte { return append(s.plain(len(b)), b...) }

func (s style) values(n int) []byte { return append(s.plain(n), times[byte](127, n)...) }

func (s style) start(n int) []byte { return slices.Concat([]byte{65}, s.signed(n), []byte{11}) }

func (s style) ins(i impl.Ins) []byte {
	op := []byte{byte(i.Op)}
	k, _ := knownOp(i.Op)
	switch k.name {
	case "block", "loop", "if":
		return append(op, []byte{64, 127}[i.A])
	case "memory.size", "memory.grow":
		return append(op, 0)
	case "i32.load", "i32.store":
		return slices.Concat(op, s.plain(i.B), s.plain(i.A))
	case "i32.const":
		return append(op, s.signed(i.A)...)
	case "br", "br_if", "call", "local.get", "local.set", "local.tee", "global.get", "global.set":
		return append(op, s.plain(i.A)...)
	}
	return op
}

func (s style) body(l []impl.Ins) []byte {
	var b []byte
	for _, i := range l {
		b = append(b, s.ins(i)...)
	}
	return b
}

func (s style) code(f impl.Func) []byte {
	lists := s.locals(f.Locals)
	b := s.plain(len(lists))
	for _, n := range lists {
		b = append(append(b, s.plain(n)...), 127)
	}
	return s.sized(append(append(b, s.body(f.Body)...), 11))
}

func (s style) memory(m impl.Module) [][]byte {
	if m.Pages == -1 {
		return nil
	}
	if m.Most == -1 {
		return [][]byte{append([]byte{0}, s.plain(m.Pages)...)}
	}
	return [][]byte{slices.Concat([]byte{1}, s.plain(m.Pages), s.plain(m.Most))}
}

// each: what part makes of each of l.
func each[T any](l []T, part func(T) []byte) [][]byte {
	var out [][]byte
	for _, v := range l {
		out = append(out, part(v))
	}
	return out
}

// parts: for the number of each section the bytes of its parts.
func (s style) parts(m impl.Module) map[int][][]byte {
	return map[int][][]byte{
		1: each(m.Sigs, func(v impl.Sig) []byte {
			return slices.Concat([]byte{96}, s.values(v.Params), s.values(v.Results))
		}),
		2: each(m.Imports, func(v impl.Import) []byte {
			return slices.Concat(s.name(v.Mod), s.name(v.Name), []byte{0}, s.plain(v.Sig))
		}),
		3: each(m.Funcs, func(v impl.Func) []byte { return s.plain(v.Sig) }),
		5: s.memory(m),
		6: each(m.Globals, func(v impl.Global) []byte {
			return append([]byte{127, byte(one(v.Mut))}, s.start(v.Init)...)
		}),
		7: each(m.Exports, func(v impl.Export) []byte {
			return slices.Concat(s.name(v.Name), []byte{byte(v.Kind)}, s.plain(v.Index))
		}),
		10: each(m.Funcs, s.code),
		11: each(m.Data, func(v impl.Data) []byte {
			return slices.Concat([]byte{0}, s.start(v.At), s.sized(v.Bytes))
		}),
	}
}

// inside: what is in the section with these parts.
func (s style) inside(number int, parts [][]byte) []byte {
	all := slices.Concat(parts...)
	if number == 5 {
		return append([]byte{byte(len(parts))}, all...)
	}
	return append(s.plain(len(parts)), all...)
}

func (s style) module(m impl.Module) []byte {
	b := []byte(headBytes)
	parts := s.parts(m)
	for _, number := range sectionOrder() {
		if len(parts[number]) > 0 || s.empty {
			b = append(append(b, byte(number)), s.sized(s.inside(number, parts[number]))...)
		}
	}
	return b
}

// chunk: a section by its number and what is in it.
type chunk struct {
	number int
	inside []byte
}

// chunks: the sections of m, as the document's writer has them.
func chunks(m impl.Module) []chunk {
	var l []chunk
	parts := shortest().parts(m)
	for _, number := range sectionOrder() {
		if len(parts[number]) > 0 {
			l = append(l, chunk{number, shortest().inside(number, parts[number])})
		}
	}
	return l
}

func ofChunks(l ...chunk) []byte {
	b := []byte(headBytes)
	for _, c := range l {
		b = append(append(b, byte(c.number)), shortest().sized(c.inside)...)
	}
	return b
}

// with: the chunks with another inside for one of them.
func with(l []chunk, at int, inside []byte) []chunk {
	l = slices.Clone(l)
	l[at].inside = inside
	return l
}

// nilled: the module with nil for each list without elements.
func nilled(m impl.Module) impl.Module {
	m = copied(m)
	for k := range m.Funcs {
		m.Funcs[k].Body = nilIfEmpty(m.Funcs[k].Body)
	}
	for k := range m.Data {
		m.Data[k].Bytes = nilIfEmpty(m.Data[k].Bytes)
	}
	m.Sigs, m.Imports, m.Funcs = nilIfEmpty(m.Sigs), nilIfEmpty(m.Imports), nilIfEmpty(m.Funcs)
	m.Globals, m.Exports, m.Data = nilIfEmpty(m.Globals), nilIfEmpty(m.Exports), nilIfEmpty(m.Data)
	return m
}

func nilIfEmpty[T any](l []T) []T {
	if len(l) == 0 {
		return nil
	}
	return l
}

func alike(a, b impl.Module) bool { return reflect.DeepEqual(nilled(a), nilled(b)) }

// wantCode: the bytes have that code, and nothing beside it where it isn't 0.
func wantCode(t *testing.T, what string, b []byte, want int) {
	t.Helper()
	m, code := impl.ReadModule(b)
	if code != want {
		t.Errorf("%s: code %d, not %d, of % .80x", what, code, want, b)
	}
	if code != 0 && !reflect.DeepEqual(m, impl.Module{}) {
		t.Errorf("%s: beside code %d stands %+v", what, code, m)
	}
	_, ok := impl.Sections(b)
	if ok != (want != 1 && want != 2) {
		t.Errorf("%s: with code %d Sections says %v", what, want, ok)
	}
}

// wantModuleOf: the bytes are read as that module, with code 0.
func wantModuleOf(t *testing.T, what string, b []byte, want impl.Module) {
	t.Helper()
	m, code := impl.ReadModule(b)
	if code != 0 || !alike(m, want) {
		t.Errorf("%s: code %d and %+v, not %+v", what, code, m, want)
	}
}

// noMemory: a module without anything.
func noMemory() impl.Module { return impl.Module{Pages: -1, Most: -1} }

// opsModule: a module with each operation, at the ends of what it may have.
func opsModule() impl.Module {
	var body []impl.Ins
	for _, i := range rightIns() {
		switch i.Op {
		case impl.OpElse, impl.OpEnd:
			// They come with what begins.
		case impl.OpBlock, impl.OpLoop:
			body = append(body, i, impl.Ins{Op: impl.OpEnd})
		case impl.OpIf:
			body = append(body, i, impl.Ins{Op: impl.OpElse}, impl.Ins{Op: impl.OpEnd})
		default:
			body = append(body, i)
		}
	}
	funcs := []impl.Func{{Locals: 60, Body: body}, {Body: spelt("iblneesisnene")}, {Locals: 1}}
	return impl.Module{Sigs: []impl.Sig{{}}, Funcs: funcs, Pages: 0, Most: 0}
}

// ownModules: right modules of many kinds.
func ownModules() []impl.Module {
	l := []impl.Module{noMemory(), {}, {Pages: 2, Most: -1}, {Pages: 2, Most: 65536}, {Pages: 0, Most: 0}, {Pages: 1, Most: 128}, wholeModule(), opsModule()}
	full := impl.Module{Sigs: times(impl.Sig{Params: 60, Results: 1}, 30), Pages: 2, Most: 2}
	full.Imports = times(impl.Import{Mod: strings.Repeat("é", 20), Name: strings.Repeat("m", 40), Sig: 29}, 30)
	full.Funcs = times(impl.Func{Sig: 29, Locals: 60, Body: times(impl.Ins{Op: impl.OpConst, A: impl.MinI}, 1500)}, 30)
	full.Globals = times(impl.Global{Mut: true, Init: impl.MinI}, 30)
	full.Exports = times(impl.Export{Name: strings.Repeat("x", 40), Kind: 3, Index: 1000}, 60)
	full.Data = times(impl.Data{At: impl.MaxI, Bytes: times[byte](200, 2000)}, 20)
	return append(l, full)
}

package tests

import (
	"slices"
	"strconv"
	"strings"
	"testing"

	"loop.example/g00472/impl"
)

// The tests' own compiler. The code of a node is a text with holes, told by its
// kind and its sign; the nodes are gone through from the last one to the first,
// so that what lies in a node is written ahead of it. What a name stands for is
// told by the places of nodes. The program writes instructions in the order of
// the text instead, each kind of part in a way of its own.

// In a text with holes @0, @1 .. are the codes of the kids, @all those of all kids,
// one behind the other; what a '$' begins is a word.
const holedIndex = "@0;local.tee $spare;i32.const $size;i32.ge_u;if 0;i32.const 6;global.set 0;unreachable;end;local.get $spare;i32.const 2;i32.shl;"

// holedCode: the text with holes of the node.
func holedCode(n impl.Node) string {
	switch n.Kind {
	case impl.NNum:
		return "i32.const $n"
	case impl.NName:
		return "$sort.get $number"
	case impl.NAt:
		return holedIndex + "i32.load $place 2"
	case impl.NPut:
		return holedIndex + "@1;i32.store $place 2"
	case impl.NCall:
		return map[string]string{"get": "call 0", "put": "@0;call 1;i32.const 0", "size": "i32.const $size"}[n.S]
	case impl.NUnary:
		return map[string]string{"-": "i32.const 0;@0;i32.sub", "!": "@0;i32.eqz", "~": "@0;i32.const -1;i32.xor"}[n.S]
	case impl.NBinary:
		return holedBinary(n.S)
	case impl.NVar, impl.NSet:
		return "@0;$sort.set $number"
	case impl.NDo:
		return "@0;drop"
	case impl.NReturn:
		return "@0;return"
	case impl.NIf:
		return []string{"@0;if 0;@1;end", "@0;if 0;@1;else;@2;end"}[len(n.Kids)-2]
	case impl.NWhile:
		return "block 0;loop 0;@0;i32.eqz;br_if 1;@1;br 0;end;end"
	}
	return "@all"
}

func holedBinary(sign string) string {
	switch sign {
	case "&&":
		return "@0;if 1;@1;i32.eqz;i32.eqz;else;i32.const 0;end"
	case "||":
		return "@0;if 1;i32.const 1;else;@1;i32.eqz;i32.eqz;end"
	}
	signs := strings.Fields("== != < > <= >= | ^ & << >> + - * / %")
	return "@0;@1;i32." + strings.Fields("eq ne lt_s gt_s le_s ge_s or xor and shl shr_s add sub mul div_s rem_s")[slices.Index(signs, sign)]
}

// wordsOf: for each word of the text with holes of node k what stands there.
func wordsOf(p impl.Source, fn, k int) []string {
	n := p.Nodes[k]
	array := n.S
	if n.Kind == impl.NCall && n.S == "size" {
		array = p.Nodes[n.Kids[0]].S
	}
	size := 0
	for _, a := range p.Arrays {
		if a.Name == array {
			size = a.Size
		}
	}
	sort, number := "global", 1+slices.Index(p.Globals, n.S)
	if n.Kind == impl.NVar || localAt(p, fn, k, n.S) {
		sort, number = "local", slices.Index(wantLocalsOf(p, fn), n.S)
	}
	told := strconv.Itoa
	// A word that begins with another one stands ahead of that.
	return []string{
		"$number", told(number), "$n", told(n.N), "$sort", sort, "$spare", told(len(wantLocalsOf(p, fn))),
		"$size", told(size), "$place", told(wantPlaceOf(p, array)),
	}
}

// filledCode: the text with what stands in its holes.
func filledCode(holed string, kids []string) string {
	var parts []string
	for _, part := range strings.Split(holed, ";") {
		kid, is := strings.CutPrefix(part, "@")
		switch at, _ := strconv.Atoi(kid); {
		case !is:
			parts = append(parts, part)
		case kid == "all":
			parts = append(parts, kids...)
		default:
			parts = append(parts, kids[at])
		}
	}
	return joined(parts...)
}

// wantCodeOf: the body of function fn, as a text.
func wantCodeOf(p impl.Source, fn int) string {
	from, behind := span(p, fn)
	codes := make([]string, behind)
	for k := behind - 1; k >= from; k-- {
		n := p.Nodes[k]
		var kids []string
		for _, kid := range n.Kids {
			kids = append(kids, codes[kid])
		}
		holed := holedCode(n)
		if own := numberOfFn(p, n.S); n.Kind == impl.NCall && own >= 0 {
			holed = "@all;call " + strconv.Itoa(2+own)
		}
		codes[k] = filledCode(strings.NewReplacer(wordsOf(p, fn, k)...).Replace(holed), kids)
	}
	return joined(codes[from], "i32.const 0")
}

// wantGenOf: the module that Gen must tell, and whether there is one.
func wantGenOf(t *testing.T, p impl.Source) (impl.Module, bool) {
	t.Helper()
	if code, _ := wantCheckOf(p); code != 0 {
		return impl.Module{}, false
	}
	most := 0
	for _, f := range p.Fns {
		most = max(most, len(f.Params))
	}
	m := impl.Module{Pages: 1, Most: 1, Globals: times(impl.Global{Mut: true}, 1+len(p.Globals))}
	for params := range most + 1 {
		m.Sigs = append(m.Sigs, impl.Sig{Params: params, Results: 1})
	}
	m.Sigs = append(m.Sigs, impl.Sig{Params: 1})
	m.Imports = []impl.Import{{Mod: "io", Name: "get"}, {Mod: "io", Name: "put", Sig: most + 1}}
	m.Exports = []impl.Export{{Name: "main", Index: 2 + numberOfFn(p, "main")}}
	right := most+2 <= 30
	for fn, f := range p.Fns {
		body := bodyOf(t, wantCodeOf(p, fn))
		m.Funcs = append(m.Funcs, impl.Func{Sig: len(f.Params), Locals: len(varsOf(p, fn)) + 1, Body: body})
		right = right && len(body) <= 1500
	}
	if !right {
		return impl.Module{}, false
	}
	return m, true
}

// wantAsGenerated: Gen tells what the tests' own compiler does.
func wantAsGenerated(t *testing.T, what string, p impl.Source) (impl.Module, bool) {
	t.Helper()
	want, wantOk := wantGenOf(t, p)
	got, ok := impl.Gen(p)
	if ok != wantOk || !alike(got, want) {
		t.Errorf("Gen is %s, %v, not %s, %v, of %.600s", modulesText(got), ok, modulesText(want), wantOk, what)
	}
	return want, wantOk
}

// modulesText: the module but for its bodies, and these as texts.
func modulesText(m impl.Module) string {
	texts := short(textsOf(m))
	m.Funcs = slices.Clone(m.Funcs)
	for k := range m.Funcs {
		m.Funcs[k].Body = nil
	}
	return short(m) + " " + texts
}

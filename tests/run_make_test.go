package tests

import (
	"slices"

	"loop.example/g00472/impl"
)

// maker makes right bodies by a fixed rule: it keeps how many values lie in
// the part that it makes, and what a branch to each open one takes.
type maker struct {
	next  func(below int) int
	m     impl.Module
	f     impl.Func
	takes []int
	left  int
	body  []impl.Ins
}

func (k *maker) add(op int, a int) { k.body = append(k.body, impl.Ins{Op: op, A: a}) }

func (k *maker) locals() int { return k.m.Sigs[k.f.Sig].Params + k.f.Locals }

// constant: mostly a small number, now and then one at an edge of what there is.
func (k *maker) constant() int {
	far := []int{-1, -1, -1, impl.MinI, impl.MinI, impl.MinI, impl.MaxI, 65532, 65533, 65535, 131068, 131069, -4, 255, 256}
	if k.next(6) == 0 {
		return far[k.next(len(far))]
	}
	return k.next(7) - 1
}

// put adds what puts one value.
func (k *maker) put() {
	switch c := k.next(10); {
	case c < 4:
		k.add(impl.OpConst, k.constant())
	case c < 7 && k.locals() > 0:
		k.add(impl.OpGet, k.next(k.locals()))
	case c < 8:
		k.add(impl.OpGGet, k.next(len(k.m.Globals)))
	case c < 9 && k.m.Pages >= 0:
		k.add(impl.OpSize, 0)
	default:
		k.add(impl.OpCall, 0)
	}
}

// ensure adds as many values as are lacking, and takes them from the height.
func (k *maker) ensure(height, count int) int {
	for ; height < count; height++ {
		k.put()
	}
	return height - count
}

// spend adds what takes some values and puts some, and tells the new height.
func (k *maker) spend(height int) int {
	switch c := k.next(20); {
	case c < 7:
		height = k.ensure(height, 2)
		// The divisions come twice, since they may end the run.
		ops := slices.Concat(numberOps("i32.eq", 10), numberOps("i32.add", 15), numberOps("i32.div_s", 4))
		k.add(ops[k.next(len(ops))], 0)
		return height + 1
	case c < 9:
		height = k.ensure(height, 1)
		k.add([]int{impl.OpEqz, impl.OpClz, impl.OpClz + 1, impl.OpPop}[k.next(4)], 0)
		return height + 1
	case c < 11 && k.locals() > 0:
		height = k.ensure(height, 1)
		k.add(impl.OpSet, k.next(k.locals()))
		return height
	case c < 12 && k.locals() > 0:
		height = k.ensure(height, 1)
		k.add(impl.OpTee, k.next(k.locals()))
		return height + 1
	case c < 14:
		height = k.ensure(height, 1)
		k.add(impl.OpGSet, 0)
		return height
	case c < 15:
		height = k.ensure(height, 3)
		k.add(impl.OpSelect, 0)
		return height + 1
	case c < 17 && k.m.Pages >= 0:
		return k.onMemory(height)
	}
	height = k.ensure(height, 1)
	k.add(impl.OpDrop, 0)
	return height
}

func numberOps(first string, count int) []int {
	var l []int
	for op := range count {
		l = append(l, impl.NameOp(first)+op)
	}
	return l
}

func (k *maker) onMemory(height int) int {
	offset := []int{0, 0, 0, 1, 4, 65532, impl.MaxI}[k.next(7)]
	switch k.next(5) {
	case 0:
		height = k.ensure(height, 1)
		k.add(impl.OpGrow, 0)
		return height + 1
	case 1, 2:
		height = k.ensure(height, 1)
		k.add(impl.OpLoad, offset)
		return height + 1
	}
	height = k.ensure(height, 2)
	k.add(impl.OpStore, offset)
	return height
}

func (k *maker) call(height int) int {
	index := k.next(len(k.m.Imports) + len(k.m.Funcs))
	sig, _ := functionSig(k.m, index)
	height = k.ensure(height, sig.Params)
	k.add(impl.OpCall, index)
	return height + sig.Results
}

// inner adds a part with all that is in it.
func (k *maker) inner(height int) int {
	op := []int{impl.OpBlock, impl.OpLoop, impl.OpIf}[k.next(3)]
	results := k.next(2)
	takes := results
	if op == impl.OpLoop {
		takes = 0
	}
	if op == impl.OpIf {
		height = k.ensure(height, 1)
	}
	k.add(op, results)
	k.takes = append(k.takes, takes)
	k.part(results)
	if op == impl.OpIf && (results == 1 || k.next(2) == 0) {
		k.add(impl.OpElse, 0)
		k.part(results)
	}
	k.takes = k.takes[:len(k.takes)-1]
	k.add(impl.OpEnd, 0)
	return height + results
}

// counted adds a loop that a local counts, so that many runs go round and end.
func (k *maker) counted(height int) int {
	at := k.next(k.locals())
	k.add(impl.OpConst, 1+k.next(6))
	k.add(impl.OpSet, at)
	k.add(impl.OpLoop, 0)
	k.takes = append(k.takes, 0)
	k.part(0)
	k.takes = k.takes[:len(k.takes)-1]
	k.add(impl.OpGet, at)
	k.add(impl.OpConst, 1)
	k.add(impl.OpAdd+1, 0)
	k.add(impl.OpTee, at)
	k.add(impl.OpBrIf, 0)
	k.add(impl.OpEnd, 0)
	return height
}

func (k *maker) branchIf(height int) int {
	to := k.next(len(k.takes))
	takes := k.takes[len(k.takes)-1-to]
	height = k.ensure(height, takes+1)
	k.add(impl.OpBrIf, to)
	return height + takes
}

// die adds what nothing behind can be reached of, and something behind it.
func (k *maker) die(height int) {
	switch k.next(4) {
	case 0:
		k.add(impl.OpTrap, 0)
	case 1:
		k.ensure(height, k.m.Sigs[k.f.Sig].Results)
		k.add(impl.OpReturn, 0)
	default:
		to := k.next(len(k.takes))
		k.ensure(height, k.takes[len(k.takes)-1-to])
		k.add(impl.OpBr, to)
	}
	if k.next(3) == 0 {
		k.add(impl.OpSelect, 0)
		k.add(impl.OpDrop, 0)
	}
}

// part adds a part's instructions; they leave just its results, or nothing comes to its end.
func (k *maker) part(results int) {
	height := 0
	for k.left > 0 && k.next(9) > 0 {
		k.left--
		switch c := k.next(24); {
		case c < 5:
			k.put()
			height++
		case c < 14:
			height = k.spend(height)
		case c < 17:
			height = k.call(height)
		case c < 20:
			height = k.inner(height)
		case c < 21 && k.locals() > 0:
			height = k.counted(height)
		case c < 23:
			height = k.branchIf(height)
		case k.next(3) == 0:
			k.die(height)
			return
		}
	}
	for ; height > results; height-- {
		k.add(impl.OpDrop, 0)
	}
	k.ensure(height, results)
}

// makeBody: a right body of the function, of about as many steps as size says.
func makeBody(next func(int) int, m impl.Module, f impl.Func, size int) []impl.Ins {
	k := &maker{next: next, m: m, f: f, takes: []int{m.Sigs[f.Sig].Results}, left: size}
	k.part(m.Sigs[f.Sig].Results)
	return k.body
}

// makeModule: a right module with all bodies made so. Its functions take up
// to two Params; its imports are io get, io put and now and then another one.
func makeModule(next func(int) int) impl.Module {
	m := impl.Module{
		Sigs:    []impl.Sig{{}, {Results: 1}, {Params: 1}, {Params: 1, Results: 1}, {Params: 2, Results: 1}},
		Imports: []impl.Import{{Mod: "io", Name: "get", Sig: 1}, {Mod: "io", Name: "put", Sig: 2}},
		Pages:   next(4) - 1,
		Most:    -1,
		Globals: []impl.Global{{Mut: true, Init: next(5)}, {Init: -1 - next(5)}},
	}
	if next(6) == 0 {
		m.Imports = append(m.Imports, impl.Import{Mod: "io", Name: "more", Sig: next(5)})
	}
	if m.Pages >= 0 {
		m.Most = []int{-1, m.Pages, 2, 65536}[next(4)]
		m.Data = makeData(next, m.Pages)
	}
	for range 1 + next(4) {
		m.Funcs = append(m.Funcs, impl.Func{Sig: next(5), Locals: next(3)})
	}
	m.Funcs[0].Sig = next(2)
	for k, f := range m.Funcs {
		m.Funcs[k].Body = makeBody(next, m, f, 4+next(40))
	}
	m.Exports = []impl.Export{{Name: "main", Index: len(m.Imports)}}
	return m
}

// makeData: a few bytes at the begin and at the end, which now and then don't fit.
func makeData(next func(int) int, pages int) []impl.Data {
	if pages == 0 {
		return nil
	}
	at := pages*page - 8
	if next(12) == 0 {
		at += 6
	}
	return []impl.Data{{At: next(6), Bytes: []byte{7, 6, 255, 4}}, {At: at, Bytes: []byte{1, 2, 3, 128, byte(next(256))}}}
}

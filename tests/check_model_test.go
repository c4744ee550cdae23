package tests

import (
	"math/big"
	"slices"

	"loop.example/g00472/impl"
)

// The tests' own rules of a program. All flaws of all nodes are gathered, each
// with the moment at which it is met, and the one that is met first is told; where
// a local can be named is told by the places of nodes. The program walks instead.

// flaw: a fault, and when it is met: at which step, in which function, at which moment of it.
type flaw struct {
	when []int
	code int
	at   int
}

// The steps of Check.
const (
	stepForm = iota
	stepNames
	stepCounts
	stepMain
	stepFunctions
)

// span: the places of function fn's nodes: the first one, and the one behind the last.
func span(p impl.Source, fn int) (int, int) {
	if fn+1 < len(p.Fns) {
		return p.Fns[fn].Body, p.Fns[fn+1].Body
	}
	return p.Fns[fn].Body, len(p.Nodes)
}

// endOf: the place of the last node that lies in node k, or is it.
func endOf(p impl.Source, k int) int {
	for len(p.Nodes[k].Kids) > 0 {
		k = p.Nodes[k].Kids[len(p.Nodes[k].Kids)-1]
	}
	return k
}

// varsOf: the places of function fn's NVars.
func varsOf(p impl.Source, fn int) []int {
	var l []int
	for k, end := span(p, fn); k < end; k++ {
		if p.Nodes[k].Kind == impl.NVar {
			l = append(l, k)
		}
	}
	return l
}

// localAt: name is that of a local of function fn that can be named at node k.
func localAt(p impl.Source, fn, k int, name string) bool {
	return slices.Contains(p.Fns[fn].Params, name) || slices.ContainsFunc(varsOf(p, fn), func(v int) bool {
		return p.Nodes[v].S == name && endOf(p, v) < k
	})
}

func hasArray(p impl.Source, name string) bool {
	return slices.ContainsFunc(p.Arrays, func(a impl.Array) bool { return a.Name == name })
}

func numberOfFn(p impl.Source, name string) int {
	return slices.IndexFunc(p.Fns, func(f impl.Fn) bool { return f.Name == name })
}

// argsOf: how many arguments the function of that name has; -1 where there is none.
func argsOf(p impl.Source, name string) int {
	switch name {
	case "get":
		return 0
	case "put", "size":
		return 1
	}
	if fn := numberOfFn(p, name); fn >= 0 {
		return len(p.Fns[fn].Params)
	}
	return -1
}

// sized: the places of the NNames that are arguments of `size`.
func sized(p impl.Source) []int {
	var l []int
	for _, n := range p.Nodes {
		if n.Kind == impl.NCall && n.S == "size" && len(n.Kids) == 1 && p.Nodes[n.Kids[0]].Kind == impl.NName {
			l = append(l, n.Kids[0])
		}
	}
	return l
}

// codesAt: the codes of node k of function fn, that of the chapter's order first.
func codesAt(p impl.Source, fn, k int) []int {
	var l []int
	flawed := func(code int, holds bool) {
		if holds {
			l = append(l, code)
		}
	}
	n := p.Nodes[k]
	arrayThere := func(k int) bool { return hasArray(p, p.Nodes[k].S) && !localAt(p, fn, k, p.Nodes[k].S) }
	switch n.Kind {
	case impl.NVar:
		ahead := slices.DeleteFunc(varsOf(p, fn), func(v int) bool { return v >= k })
		flawed(takenName, slices.Contains(p.Fns[fn].Params, n.S) || slices.ContainsFunc(ahead, func(v int) bool { return p.Nodes[v].S == n.S }))
		flawed(tooMuch, len(p.Fns[fn].Params)+len(ahead) >= 40)
	case impl.NName, impl.NSet:
		flawed(noName, !localAt(p, fn, k, n.S) && !slices.Contains(p.Globals, n.S) && !slices.Contains(sized(p), k))
	case impl.NAt, impl.NPut:
		flawed(notArray, !arrayThere(k))
	case impl.NCall:
		flawed(notArray, n.S == "size" && len(n.Kids) == 1 && (p.Nodes[n.Kids[0]].Kind != impl.NName || !arrayThere(n.Kids[0])))
		flawed(noName, argsOf(p, n.S) < 0)
		flawed(otherArgs, argsOf(p, n.S) != len(n.Kids))
	}
	return l
}

func flawsOf(p impl.Source, fn int) []flaw {
	var l []flaw
	for k, name := range p.Fns[fn].Params {
		if slices.Contains(p.Fns[fn].Params[:k], name) {
			l = append(l, flaw{when: []int{stepFunctions, fn, -1}, code: takenName})
		}
	}
	for k, end := span(p, fn); k < end; k++ {
		// What lies in an NVar comes ahead of it, all else behind the node in which it lies.
		moment := 2 * k
		if p.Nodes[k].Kind == impl.NVar {
			moment = 2*endOf(p, k) + 1
		}
		for _, code := range codesAt(p, fn, k)[:min(1, len(codesAt(p, fn, k)))] {
			l = append(l, flaw{[]int{stepFunctions, fn, moment}, code, p.Nodes[k].At})
		}
	}
	return l
}

func sharedNames(p impl.Source) []string {
	l := append([]string{"get", "put", "size"}, p.Globals...)
	for _, a := range p.Arrays {
		l = append(l, a.Name)
	}
	for _, f := range p.Fns {
		l = append(l, f.Name)
	}
	return l
}

func twice(l []string) bool {
	l = slices.Sorted(slices.Values(l))
	return len(slices.Compact(slices.Clone(l))) != len(l)
}

func headTooMuch(p impl.Source) bool {
	cells := new(big.Int)
	for _, a := range p.Arrays {
		if a.Size == 0 {
			return true
		}
		cells.Add(cells, big.NewInt(int64(a.Size)))
	}
	return len(p.Fns) > 40 || len(p.Globals) > 29 || cells.Cmp(big.NewInt(8000)) > 0 ||
		slices.ContainsFunc(p.Fns, func(f impl.Fn) bool { return len(f.Params) > 40 })
}

// wantCheckOf: the code and the place that Check must tell.
func wantCheckOf(p impl.Source) (code, at int) {
	if !hasText(p) {
		return noProgram, 0
	}
	var l []flaw
	flawed := func(step, code int, holds bool) {
		if holds {
			l = append(l, flaw{when: []int{step}, code: code})
		}
	}
	flawed(stepMain, noMain, argsOf(p, "main") != 0)
	flawed(stepCounts, tooMuch, headTooMuch(p))
	flawed(stepNames, takenName, twice(sharedNames(p)))
	for fn := range p.Fns {
		l = append(l, flawsOf(p, fn)...)
	}
	if len(l) == 0 {
		return 0, 0
	}
	first := slices.MinFunc(l, func(a, b flaw) int { return slices.Compare(a.when, b.when) })
	return first.code, first.at
}

// The following are asked of programs without a fault.

func wantLocalsOf(p impl.Source, fn int) []string {
	l := slices.Clone(p.Fns[fn].Params)
	for _, v := range varsOf(p, fn) {
		l = append(l, p.Nodes[v].S)
	}
	return l
}

func wantPlaceOf(p impl.Source, name string) int {
	bytes := 0
	for _, a := range p.Arrays {
		if a.Name == name {
			return bytes
		}
		bytes += 4 * a.Size
	}
	return -1
}

// callTable: whether the one function calls the other.
func callTable(p impl.Source) [][]bool {
	table := make([][]bool, len(p.Fns))
	for fn := range p.Fns {
		table[fn] = make([]bool, len(p.Fns))
		for k, end := span(p, fn); k < end; k++ {
			if other := numberOfFn(p, p.Nodes[k].S); p.Nodes[k].Kind == impl.NCall && other >= 0 {
				table[fn][other] = true
			}
		}
	}
	return table
}

// marked: the places of what holds, rising.
func marked(l []bool) []int {
	var places []int
	for k, holds := range l {
		if holds {
			places = append(places, k)
		}
	}
	return places
}

func wantCallsOf(p impl.Source, fn int) []int { return marked(callTable(p)[fn]) }

// wantReachedOf marks main, and what a marked one calls, as many times as there are functions.
func wantReachedOf(p impl.Source) []int {
	table := callTable(p)
	there := make([]bool, len(p.Fns))
	there[numberOfFn(p, "main")] = true
	for range p.Fns {
		for _, fn := range marked(there) {
			for _, other := range marked(table[fn]) {
				there[other] = true
			}
		}
	}
	return marked(there)
}

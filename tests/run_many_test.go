package tests

import (
	"slices"
	"testing"

	"loop.example/g00472/impl"
)

// howEnded: of runs, how many ended with each End and Why.
type howEnded map[[2]int]int

func (h howEnded) add(r impl.Result) { h[[2]int{r.End, r.Why}]++ }

// wantEach: each way to end came often enough that the runs tell something of it.
func (h howEnded) wantEach(t *testing.T, least int) {
	t.Helper()
	for _, way := range [][2]int{{impl.EndDone, 0}, {impl.EndFuel, 0}, {impl.EndDeep, 0},
		{impl.EndTrap, impl.WhyTrap}, {impl.EndTrap, impl.WhyZero}, {impl.EndTrap, impl.WhyOver}, {impl.EndTrap, impl.WhyMemory}, {impl.EndTrap, impl.WhyLink}} {
		if h[way] < least {
			t.Errorf("only %d runs end with %v: these modules tell too little", h[way], way)
		}
	}
}

// argsFor: as many args as the function has Params, by the rule.
func argsFor(next func(int) int, m impl.Module, index int) []int {
	sig, _ := functionSig(m, index)
	args := make([]int, sig.Params)
	for k := range args {
		args[k] = []int{0, 1, 2, 5, -1, impl.MinI, 1 << 32, 65532}[next(8)]
	}
	return args
}

// Modules made by a fixed rule, each function of each, as the tests' machine
// runs them: a right module never runs badly (P3), and each End, Why, N, Out,
// Steps and Globals are as told.
func TestManyModulesAsPlayed(t *testing.T) {
	next := spread()
	h := howEnded{}
	for range 4000 {
		m := makeModule(next)
		if !impl.ModuleOk(m) {
			t.Fatalf("not a right module: %s", textsOf(m))
		}
		for index := range len(m.Imports) + len(m.Funcs) {
			args := argsFor(next, m, index)
			for _, fuel := range []int{next(20), 400, 3000} {
				r := wantAsPlayed(t, m, index, args, []int{3, 0, 1 << 31, -7}, fuel)
				if r.End == impl.EndBad {
					t.Errorf("a right module runs badly: %s", textsOf(m))
				}
				h.add(r)
			}
		}
		if t.Failed() {
			return
		}
	}
	h.wantEach(t, 5)
}

// Right bodies out of a small alphabet, all of them up to a length.
func TestAllShortRightBodiesAsPlayed(t *testing.T) {
	var letters []impl.Ins
	for _, text := range alphabet() {
		letters = append(letters, bodyOf(t, text)[0])
	}
	letters = append(letters, impl.Ins{Op: impl.OpConst})
	right := 0
	for results := range 2 {
		m := machine(t, results, "")
		m.Pages = -1
		var all func(body []impl.Ins, left int)
		all = func(body []impl.Ins, left int) {
			m.Funcs[0].Body = body
			if fault, _ := wantWalk(m, 0); fault == -1 {
				right++
				wantAsPlayed(t, m, 3, nil, nil, 40)
			}
			if left == 0 || t.Failed() {
				return
			}
			for _, i := range letters {
				all(append(slices.Clone(body), i), left-1)
			}
		}
		all(nil, 5)
	}
	if right < 5000 {
		t.Errorf("only %d bodies are right", right)
	}
}

// Longer bodies, grown as those of chapter 6 were.
func TestGrownBodiesAsPlayed(t *testing.T) {
	next := spread()
	right := 0
	for k := range 4000 {
		m := around(t, k%2, "")
		m.Funcs[0].Body = grown(m, next)
		if impl.ModuleOk(m) {
			right++
			wantAsPlayed(t, m, 2, []int{k % 3, 1}, []int{1, 0}, 500)
		}
	}
	if right < 200 {
		t.Errorf("only %d bodies are right", right)
	}
}

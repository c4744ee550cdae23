package tests

import (
	"slices"
	"testing"

	"loop.example/g00472/impl"
)

// wantThere: of a run of p that doesn't end with EndBad each global and each cell is told, as a number of 32 bits.
func wantThere(t *testing.T, p impl.Source, in []int, fuel int) {
	t.Helper()
	r := impl.Mean(p, in, fuel)
	numbers := slices.Clone(r.Globals)
	if len(r.Globals) != len(p.Globals) || r.End == impl.EndBad {
		t.Errorf("Mean with %v and fuel %d is %+v, of %.600q", in, fuel, r, impl.PrintSource(p))
	}
	for _, a := range p.Arrays {
		cells := impl.Cells(p, in, fuel, a.Name)
		if len(cells) != a.Size {
			t.Errorf("Cells of %s with %v and fuel %d is %v, of %.600q", a.Name, in, fuel, cells, impl.PrintSource(p))
		}
		numbers = append(numbers, cells...)
	}
	for _, n := range append(numbers, r.N) {
		if n != wantWrap(n) || n != impl.Wrap(n) {
			t.Errorf("with %v and fuel %d there is %d, of %.600q", in, fuel, n, impl.PrintSource(p))
		}
	}
	for _, n := range r.Out {
		if n < 0 || n > 255 {
			t.Errorf("with %v and fuel %d Out is %v, of %.600q", in, fuel, r.Out, impl.PrintSource(p))
		}
	}
}

// P9: of right programs there are as many globals and cells as they have, whatever the end.
func TestGlobalsAndCellsAreThere(t *testing.T) {
	h := howEnded{}
	ask := func(p impl.Source, in []int) {
		for _, fuel := range []int{-3, 0, 1, 9, 40, 150, 2000} {
			wantThere(t, p, in, fuel)
			h.add(impl.Mean(p, in, fuel))
		}
	}
	manyLively(700, ask)
	manyRight(200, func(p impl.Source) { ask(p, []int{impl.MinI, 1<<40 + 3, -1}) })
	h.wantEnds(t, 100)
}

// wantEnds: each way in which a program ends came often enough.
func (h howEnded) wantEnds(t *testing.T, least int) {
	t.Helper()
	for _, way := range [][2]int{{impl.EndDone, 0}, {impl.EndFuel, 0}, {impl.EndDeep, 0}, {impl.EndTrap, impl.WhyZero}, {impl.EndTrap, whyBound}} {
		if h[way] < least {
			t.Errorf("only %d runs end with %v: these programs tell too little", h[way], way)
		}
	}
	for way, count := range h {
		if way[0] == impl.EndTrap && way[1] != impl.WhyZero && way[1] != impl.WhyOver && way[1] != whyBound || way[0] == impl.EndBad {
			t.Errorf("%d runs end with %v", count, way)
		}
	}
}

// P3: more fuel changes nothing of what was told, at each fuel up to what is needed and beyond.
func TestMoreFuelForMean(t *testing.T) {
	h := howEnded{}
	manyLively(300, func(p impl.Source, in []int) {
		text := impl.PrintSource(p)
		const enough = 600
		most := impl.Mean(p, in, enough)
		before := impl.Mean(p, in, 0)
		for fuel := 1; fuel <= min(most.Steps+2, enough); fuel++ {
			now := impl.Mean(p, in, fuel)
			wantGrows(t, text, before, now, fuel-1, fuel)
			wantGrows(t, text, now, most, fuel, enough)
			if (now.End == impl.EndFuel) != (fuel < most.Steps || most.End == impl.EndFuel) || now.Steps != min(fuel, most.Steps) {
				t.Errorf("with fuel %d %+v, with %d %+v, of %.600s", fuel, now, enough, most, text)
			}
			before = now
			h.add(now)
		}
	})
	h.wantEnds(t, 10)
}

// Fuel far apart, for longer runs.
func TestMuchMoreFuelForMean(t *testing.T) {
	ask := func(p impl.Source, in []int) {
		fuels := []int{-1 << 40, -1, 0, 1, 2, 7, 50, 333, 1000, 5000, 19999, 20000, 20001, 1 << 40}
		told := []impl.Result{}
		for k, fuel := range fuels {
			told = append(told, impl.Mean(p, in, fuel))
			if told[k].Steps > max(0, fuel) {
				t.Errorf("with fuel %d %+v", fuel, told[k])
			}
		}
		for k := range fuels {
			for g := k + 1; g < len(fuels); g++ {
				wantGrows(t, impl.PrintSource(p), told[k], told[g], max(0, min(fuels[k], impl.MaxFuel)), fuels[g])
			}
		}
	}
	manyLively(300, ask)
	manyRight(100, func(p impl.Source) { ask(p, nil) })
}

// Programs made by a fixed rule, as the tests' own reading does them.
func TestManyProgramsAsMeant(t *testing.T) {
	h := howEnded{}
	next := spread()
	manyLively(1200, func(p impl.Source, in []int) {
		for _, fuel := range []int{next(150), 2500} {
			h.add(wantAsMeant(t, impl.PrintSource(p), p, in, fuel).Result)
		}
	})
	h.wantEnds(t, 100)
	manyRight(300, func(p impl.Source) { wantAsMeant(t, impl.PrintSource(p), p, []int{3, 0, 1 << 31, -7}, 3000) })
}

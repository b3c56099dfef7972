package tests

import (
	"testing"

	"loop.example/g02081/impl"
)

// isUmbrellaIn looks at any three places of an order.
func isUmbrellaIn(g impl.Graph, order []int) bool {
	for k := range order {
		for j := range k {
			for i := range j {
				a, b, c := order[i], order[j], order[k]
				if joined(g, a, c) && !(joined(g, a, b) && joined(g, b, c)) {
					return false
				}
			}
		}
	}
	return true
}

func umbrellaIn(g impl.Graph) ([]int, bool) {
	return firstList(g, g.Size, isUmbrellaIn)
}

// unitEnds tries left ends along an order, the least ones first, none of them less than the one before, so that exactly neighbors are at most 7 apart.
func unitEnds(g impl.Graph, order []int) []int {
	ends := make([]int, g.Size)
	var place func(k, least int) bool
	place = func(k, least int) bool {
		if k == g.Size {
			return true
		}
		for end := least; end <= least+8; end++ {
			fits := true
			for _, v := range order[:k] {
				fits = fits && joined(g, v, order[k]) == (end-ends[v] <= 7)
			}
			if !fits {
				continue
			}
			if ends[order[k]] = end; place(k+1, end) {
				return true
			}
		}
		return false
	}
	// Moving all ends down together does no harm, so the first one is 0.
	if ends[order[0]] = 0; place(1, 0) {
		return ends
	}
	return nil
}

func unitModelFrom(ends []int) impl.Intervals {
	var m impl.Intervals
	for _, end := range ends {
		m.Left = append(m.Left, end)
		m.Right = append(m.Right, end+7)
	}
	return m
}

func checkNoProper(t *testing.T, g impl.Graph) {
	t.Helper()
	order, ok := impl.UmbrellaOf(g)
	checkNoList(t, "UmbrellaOf", order, ok)
	m, ok := impl.UnitModelOf(g)
	checkNoModel(t, "UnitModelOf", m, ok)
	if impl.IsProper(g) {
		t.Errorf("IsProper(%v) is true", g)
	}
}

func TestUmbrellaOrders(t *testing.T) {
	eachPartGraph(func(g impl.Graph) {
		eachList(g.Size, g.Size, func(order []int) bool {
			if impl.IsUmbrella(g, order) != isUmbrellaIn(g, order) {
				t.Errorf("IsUmbrella(%v, %v) is %t", g, order, impl.IsUmbrella(g, order))
			}
			return true
		})
	})
	eachGraph(func(g impl.Graph) {
		want, wantOk := umbrellaIn(g)
		if !wantOk {
			checkNoProper(t, g)
			return
		}
		got, ok := impl.UmbrellaOf(g)
		checkList(t, "UmbrellaOf "+formatted(g), got, ok, want, true)
		if !impl.IsProper(g) {
			t.Errorf("IsProper(%v) is false", g)
		}
	})
}

func TestUnitModelOf(t *testing.T) {
	check := func(g impl.Graph) {
		order, ok := umbrellaIn(g)
		if !ok {
			return
		}
		m, ok := impl.UnitModelOf(g)
		checkModel(t, "UnitModelOf "+formatted(g), m, ok, unitModelFrom(unitEnds(g, order)), true)
		if !impl.IsUnitModel(m, impl.UnitLength) || !impl.IsModelOf(g, m) || !sameGraph(graphOfModel(m), g) {
			t.Errorf("%v has the unit model %v", g, m)
		}
	}
	eachGraph(check)
	for _, text := range []string{"7: 01 12 23 34 45 56", "7: 01 02 12 13 23 24 34 35 45 46 56", "7: 05 06 15 24 26 34", "7: 01 02 03 12 13 14 23 24 25 34 35 36 45 46 56", "7: 06 15 24"} {
		check(graphFrom(t, text))
	}
}

func TestUnitModelsOfPaths(t *testing.T) {
	for n, want := range []string{"", "0-7", "0-7 0-7", "0-7 1-8 8-15", "0-7 1-8 8-15 9-16", "0-7 1-8 8-15 9-16 16-23", "0-7 1-8 8-15 9-16 16-23 17-24", "0-7 1-8 8-15 9-16 16-23 17-24 24-31"} {
		if n == 0 {
			continue
		}
		m, ok := impl.UnitModelOf(named(t, "path", n))
		if got := impl.FormatIntervals(m); !ok || got != want {
			t.Errorf("UnitModelOf a path of %d = %q, %t, want %q", n, got, ok, want)
		}
	}
}

func TestUnitModelMeansUmbrellaOrder(t *testing.T) {
	if impl.UnitLength != 7 {
		t.Errorf("UnitLength is %d", impl.UnitLength)
	}
	check := func(g impl.Graph) {
		hasModel := false
		eachList(g.Size, g.Size, func(order []int) bool {
			hasModel = unitEnds(g, order) != nil
			return !hasModel
		})
		_, made := impl.UnitModelOf(g)
		if impl.IsProper(g) != hasModel || made != hasModel {
			t.Errorf("IsProper(%v) is %t, but it has a unit model: %t", g, impl.IsProper(g), hasModel)
		}
	}
	for n := 1; n <= 4; n++ {
		eachGraphOf(n, check)
	}
	for bits := 0; bits < 1<<10; bits += 3 {
		check(graphOf(5, bits))
	}
}

func TestBandOf(t *testing.T) {
	eachPartGraph(func(g impl.Graph) {
		eachList(g.Size, g.Size, func(order []int) bool {
			want := 0
			for i := range order {
				for j := i; j < len(order); j++ {
					if joined(g, order[i], order[j]) && j-i > want {
						want = j - i
					}
				}
			}
			if got := impl.BandOf(g, order); got != want {
				t.Errorf("BandOf(%v, %v) = %d, want %d", g, order, got, want)
			}
			return true
		})
	})
}

func TestProperObstacle(t *testing.T) {
	check := func(g impl.Graph) {
		want, ok := firstList(g, 4, isClawIn)
		for n := 4; n <= g.Size && !ok; n++ {
			want, ok = firstList(g, n, isHoleIn)
		}
		if !ok {
			want = tripleIn(g)
		}
		got, ok := impl.ProperObstacle(g)
		checkList(t, "ProperObstacle of "+formatted(g), got, ok, want, want != nil)
		if _, proper := umbrellaIn(g); proper == ok || ok != impl.IsProperObstacle(g, got) {
			t.Errorf("%v has the obstacle %v", g, got)
		}
	}
	eachPartGraph(check)
	for _, g := range tripleGraphs(t) {
		check(g)
	}
}

func TestIsProperObstacle(t *testing.T) {
	check := func(g impl.Graph) {
		for n := range g.Size + 1 {
			eachList(g.Size, n, func(l []int) bool {
				want := isClawIn(g, l) || isHoleIn(g, l) || n == 3 && isTripleIn(g, l[0], l[1], l[2])
				if impl.IsProperObstacle(g, l) != want {
					t.Errorf("IsProperObstacle(%v, %v) is %t", g, l, !want)
				}
				return true
			})
		}
	}
	for n := 1; n <= 4; n++ {
		eachGraphOf(n, check)
	}
	for _, g := range append(tripleGraphs(t)[:3], graphFrom(t, "5: 01 02 03 04 12 34"), graphFrom(t, "5: 01 04 12 23 34")) {
		check(g)
	}
	for _, l := range [][]int{nil, {0}, {0, 1, 2}, {0, 1, 2, 2}, {0, 1, 2, 7}, {0, 1, 2, -1}, {0, 1, 2, 3, 4}, {1, 0, 2, 3}} {
		if impl.IsProperObstacle(named(t, "star", 5), l) {
			t.Errorf("IsProperObstacle accepts %v", l)
		}
	}
}

func TestTwoVerticesThatAreNoNeighbors(t *testing.T) {
	g := graphFrom(t, "2:")
	order, ok := impl.UmbrellaOf(g)
	checkList(t, "UmbrellaOf", order, ok, []int{0, 1}, true)
	m, ok := impl.UnitModelOf(g)
	checkModel(t, "UnitModelOf", m, ok, modelFrom(0, 7, 8, 15), true)
	if !impl.IsUmbrella(g, []int{1, 0}) || impl.BandOf(g, []int{1, 0}) != 0 || !impl.IsProper(g) {
		t.Error("two vertices that are no neighbors have no umbrella order or a band")
	}
	l, ok := impl.ProperObstacle(g)
	checkNoList(t, "ProperObstacle", l, ok)
	for n := 1; n <= 7; n++ {
		m, ok := impl.UnitModelOf(named(t, "empty", n))
		var ends []int
		for v := range n {
			ends = append(ends, 8*v)
		}
		checkModel(t, "UnitModelOf", m, ok, unitModelFrom(ends), true)
	}
}

func TestUnitFunctionsRefuseInvalidArguments(t *testing.T) {
	g := graphFrom(t, "3: 01 12")
	for _, order := range noOrders() {
		if impl.IsUmbrella(g, order) || impl.BandOf(g, order) != -1 {
			t.Errorf("%v is accepted as an order", order)
		}
	}
	for _, v := range strangeNumbers() {
		if order := []int{0, 1, v}; impl.IsUmbrella(g, order) || impl.BandOf(g, order) != -1 || impl.IsProperObstacle(g, order) {
			t.Errorf("%v is accepted as an order", order)
		}
	}
	for _, g := range invalidGraphs() {
		checkNoProper(t, g)
		l, ok := impl.ProperObstacle(g)
		checkNoList(t, "ProperObstacle", l, ok)
		for n := range 9 {
			order := members(1<<n - 1)
			if impl.IsUmbrella(g, order) || impl.BandOf(g, order) != -1 || impl.IsProperObstacle(g, order) {
				t.Errorf("%v is accepted with %v", g, order)
			}
		}
	}
}

func TestUnitFunctionsLeaveArgumentsAlone(t *testing.T) {
	for _, plain := range append(invalidGraphs(), graphOf(4, 0b101101), graphOf(4, 1), graphOf(7, 12345), graphOf(7, 1)) {
		g, checkRows := guardedGraph(plain)
		l, checkNumbers := guarded([]int{3, 1, 2, 0})
		impl.IsUmbrella(g, l)
		impl.IsProper(g)
		impl.IsProperObstacle(g, l)
		impl.BandOf(g, l)
		order, _ := impl.UmbrellaOf(g)
		m, _ := impl.UnitModelOf(g)
		obstacle, _ := impl.ProperObstacle(g)
		checkApart(t, "results", g.Rows, l, order, m.Left, m.Right, obstacle)
		checkRows(t, "a function of chapter 12")
		checkNumbers(t, "a function of chapter 12")
	}
}

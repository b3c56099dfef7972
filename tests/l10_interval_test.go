package tests

import (
	"slices"
	"testing"

	"loop.example/g02081/impl"
)

// areConsecutive reports whether the places of the sets with each vertex have no gap between them.
func areConsecutive(sets []int) bool {
	for v := range 7 {
		var places []int
		for i, set := range sets {
			if set>>v&1 == 1 {
				places = append(places, i)
			}
		}
		if n := len(places); n > 0 && places[n-1]-places[0] != n-1 {
			return false
		}
	}
	return true
}

// cliqueOrdersIn lists the orders of the maximal cliques, as far as they are consecutive, in lexicographic order.
func cliqueOrdersIn(g impl.Graph) [][]int {
	cliques := maximalIn(g)
	var orders [][]int
	eachList(len(cliques), len(cliques), func(places []int) bool {
		order := make([]int, len(places))
		for i, place := range places {
			order[i] = cliques[place]
		}
		if areConsecutive(order) {
			orders = append(orders, order)
		}
		return true
	})
	return orders
}

func modelOfSets(sets []int, n int) impl.Intervals {
	var m impl.Intervals
	for v := range n {
		holds := func(set int) bool { return set>>v&1 == 1 }
		first := slices.IndexFunc(sets, holds)
		last := first
		for i := first; i < len(sets); i++ {
			if holds(sets[i]) {
				last = i
			}
		}
		m.Left = append(m.Left, first)
		m.Right = append(m.Right, last)
	}
	return m
}

func TestCliqueOrders(t *testing.T) {
	eachGraph(func(g impl.Graph) {
		if hasHole(g) {
			checkNoInterval(t, g)
			return
		}
		orders := cliqueOrdersIn(g)
		if got := impl.CountCliqueOrders(g); got != min(1000, len(orders)) {
			t.Errorf("CountCliqueOrders(%v) = %d, want %d", g, got, len(orders))
		}
		if len(orders) == 0 {
			checkNoInterval(t, g)
			return
		}
		order, ok := impl.CliqueOrderOf(g)
		checkList(t, "CliqueOrderOf "+formatted(g), order, ok, orders[0], true)
		m, ok := impl.IntervalModelOf(g)
		checkModel(t, "IntervalModelOf "+formatted(g), m, ok, modelOfSets(orders[0], g.Size), true)
		if !impl.IsInterval(g) || !impl.IsCliqueOrder(g, order) || !impl.IsModelOf(g, m) || !sameGraph(graphOfModel(m), g) {
			t.Errorf("%v has the clique order %v and the model %v", g, order, m)
		}
	})
}

func checkNoInterval(t *testing.T, g impl.Graph) {
	t.Helper()
	order, ok := impl.CliqueOrderOf(g)
	checkNoList(t, "CliqueOrderOf", order, ok)
	m, ok := impl.IntervalModelOf(g)
	checkNoModel(t, "IntervalModelOf", m, ok)
	if impl.IsInterval(g) || impl.CountCliqueOrders(g) != 0 {
		t.Errorf("%v has %d clique orders", g, impl.CountCliqueOrders(g))
	}
}

func TestGraphHasModelIfNeitherHoleNorTriple(t *testing.T) {
	intervals := 0
	check := func(g impl.Graph) {
		if impl.IsInterval(g) == (hasHole(g) || len(tripleIn(g)) > 0) {
			t.Errorf("IsInterval(%v) is %t", g, impl.IsInterval(g))
		}
		if impl.IsInterval(g) {
			intervals++
		}
	}
	eachGraph(check)
	for bits := 0; bits < 1<<15; bits += 5 {
		check(graphOf(6, bits))
	}
	for _, text := range []string{"6: 01 02 03 12 14 25", "6: 01 02 03 05 12 13 14 24 25", "7: 01 02 03 14 25 36", "7: 01 02 03 04 05 12 23 34 36 45"} {
		check(graphFrom(t, text))
	}
	if intervals == 0 {
		t.Error("no graph has a model by intervals")
	}
}

func TestIsCliqueOrder(t *testing.T) {
	eachPartGraph(func(g impl.Graph) {
		cliques := maximalIn(g)
		if len(cliques) > 5 {
			return
		}
		eachList(len(cliques), len(cliques), func(places []int) bool {
			order := make([]int, len(places))
			for i, place := range places {
				order[i] = cliques[place]
			}
			if impl.IsCliqueOrder(g, order) != areConsecutive(order) {
				t.Errorf("IsCliqueOrder(%v, %v) is %t", g, order, impl.IsCliqueOrder(g, order))
			}
			return true
		})
	})
}

func TestIsCliqueOrderWantsTheMaximalCliques(t *testing.T) {
	g := graphFrom(t, "5: 01 02 12 13 34")
	for _, l := range [][]int{nil, {7}, {7, 10}, {10, 24}, {7, 10, 24, 24}, {7, 7, 10, 24}, {3, 10, 24}, {7, 10, 16}, {7, 10, 24, 16}, {0, 7, 10, 24}, {7, 10, 24, 0}, {7, 10, -8}, {7, 10, 24 + 128}, {31}} {
		if impl.IsCliqueOrder(g, l) {
			t.Errorf("IsCliqueOrder accepts %v", l)
		}
	}
	if !impl.IsCliqueOrder(g, []int{7, 10, 24}) || !impl.IsCliqueOrder(g, []int{24, 10, 7}) || impl.IsCliqueOrder(g, []int{10, 7, 24}) {
		t.Error("IsCliqueOrder does not tell orders apart")
	}
	for _, g := range invalidGraphs() {
		for _, l := range [][]int{nil, {0}, {1}, {1, 2}} {
			if impl.IsCliqueOrder(g, l) {
				t.Errorf("IsCliqueOrder(%v, %v) is true", g, l)
			}
		}
	}
}

func TestCountCliqueOrdersStopsAtThousand(t *testing.T) {
	for n, want := range []int{0, 1, 2, 6, 24, 120, 720, 1000} {
		if n == 0 {
			continue
		}
		if got := impl.CountCliqueOrders(named(t, "empty", n)); got != want {
			t.Errorf("CountCliqueOrders of %d single vertices = %d, want %d", n, got, want)
		}
	}
	if got := impl.CountCliqueOrders(named(t, "star", 7)); got != 720 {
		t.Errorf("CountCliqueOrders of a star = %d", got)
	}
}

func TestModelOfOrder(t *testing.T) {
	cases := []struct {
		sets []int
		n    int
		want impl.Intervals
	}{
		{[]int{1, 3, 2}, 2, modelFrom(0, 1, 1, 2)},
		{[]int{1}, 1, modelFrom(0, 0)},
		{[]int{0, 0, 1, 0}, 1, modelFrom(2, 2)},
		{[]int{1, 2, 1}, 2, modelFrom(0, 2, 1, 1)},
		{[]int{127}, 7, modelFrom(0, 0, 0, 0, 0, 0, 0, 0, 0, 0, 0, 0, 0, 0)},
		{[]int{24, 10, 7}, 5, modelFrom(2, 2, 1, 2, 2, 2, 0, 1, 0, 0)},
		{append(make([]int, 19), 3), 2, modelFrom(19, 19, 19, 19)},
		{append([]int{1}, slices.Repeat([]int{2}, 19)...), 2, modelFrom(0, 0, 1, 19)},
	}
	for _, c := range cases {
		m, ok := impl.ModelOfOrder(c.sets, c.n)
		checkModel(t, "ModelOfOrder", m, ok, c.want, true)
	}
	for a := range 8 {
		for b := range 8 {
			for c := range 8 {
				sets := []int{a, b, c}
				m, ok := impl.ModelOfOrder(sets, 3)
				if a|b|c == 7 {
					checkModel(t, "ModelOfOrder", m, ok, modelOfSets(sets, 3), true)
				} else {
					checkNoModel(t, "ModelOfOrder", m, ok)
				}
			}
		}
	}
}

func TestModelOfOrderRefusesInvalidArguments(t *testing.T) {
	refused := func(sets []int, n int) {
		t.Helper()
		m, ok := impl.ModelOfOrder(sets, n)
		checkNoModel(t, "ModelOfOrder", m, ok)
	}
	for _, n := range append(strangeNumbers(), 0, 8, 63, 64) {
		refused([]int{1}, n)
		refused([]int{0}, n)
		refused([]int{127}, n)
		refused([]int{255}, n)
	}
	for n := 1; n <= 7; n++ {
		refused(nil, n)
		refused([]int{1<<n - 2}, n)
		refused([]int{1<<n - 1, 1 << n}, n)
		refused([]int{1<<(n+1) - 1}, n)
		refused(slices.Repeat([]int{1<<n - 1}, 21), n)
		for _, set := range strangeNumbers() {
			refused([]int{1<<n - 1, set}, n)
		}
	}
}

func TestIsModelOf(t *testing.T) {
	eachModel(func(m impl.Intervals) {
		g := graphOfModel(m)
		if !impl.IsModelOf(g, m) {
			t.Errorf("IsModelOf(%v, %v) is false", g, m)
		}
		for v := range g.Size {
			for w := range v {
				other := impl.Graph{Size: g.Size, Rows: slices.Clone(g.Rows)}
				other.Rows[v] ^= 1 << w
				other.Rows[w] ^= 1 << v
				if impl.IsModelOf(other, m) {
					t.Errorf("IsModelOf(%v, %v) is true", other, m)
				}
			}
		}
	})
	for _, g := range append(invalidGraphs(), graphFrom(t, "1:"), graphFrom(t, "2:")) {
		for _, m := range invalidModels() {
			if impl.IsModelOf(g, m) {
				t.Errorf("IsModelOf(%v, %v) is true", g, m)
			}
		}
		if impl.IsModelOf(g, modelFrom(0, 1, 1, 2)) || impl.IsModelOf(g, modelFrom(0, 1, 5, 7, 3, 3)) {
			t.Errorf("IsModelOf accepts %v", g)
		}
	}
}

func TestIntervalGraphWithOneClique(t *testing.T) {
	for n := 1; n <= 7; n++ {
		g := named(t, "complete", n)
		order, ok := impl.CliqueOrderOf(g)
		checkList(t, "CliqueOrderOf", order, ok, []int{1<<n - 1}, true)
		m, ok := impl.IntervalModelOf(g)
		checkModel(t, "IntervalModelOf", m, ok, impl.Intervals{Left: make([]int, n), Right: make([]int, n)}, true)
		if impl.CountCliqueOrders(g) != 1 || !impl.IsCliqueOrder(g, order) || !impl.IsInterval(g) || impl.IsCliqueOrder(g, append(order, 1<<n-1)) {
			t.Errorf("%v has %d clique orders", g, impl.CountCliqueOrders(g))
		}
	}
}

func TestIntervalFunctionsRefuseInvalidGraphs(t *testing.T) {
	for _, g := range invalidGraphs() {
		checkNoInterval(t, g)
	}
}

func TestIntervalFunctionsLeaveArgumentsAlone(t *testing.T) {
	for _, plain := range append(invalidGraphs(), graphOf(4, 0b101101), graphOf(4, 1), graphOf(7, 12345), graphOf(7, 0)) {
		g, checkRows := guardedGraph(plain)
		l, checkNumbers := guarded([]int{24, 10, 7})
		left, checkLeft := guarded([]int{0, 2, 5})
		right, checkRight := guarded([]int{3, 6, 8})
		m := impl.Intervals{Left: left, Right: right}
		impl.IsCliqueOrder(g, l)
		impl.IsInterval(g)
		impl.IsModelOf(g, m)
		impl.CountCliqueOrders(g)
		order, _ := impl.CliqueOrderOf(g)
		a, _ := impl.IntervalModelOf(g)
		b, _ := impl.ModelOfOrder(l, 5)
		checkApart(t, "results", g.Rows, l, left, right, order, a.Left, a.Right, b.Left, b.Right)
		checkRows(t, "a function of chapter 10")
		checkNumbers(t, "a function of chapter 10")
		checkLeft(t, "a function of chapter 10")
		checkRight(t, "a function of chapter 10")
	}
}

package tests

import (
	"slices"
	"testing"

	"loop.example/g02081/impl"
)

// avoidingIn tries all lists, the shorter ones first.
func avoidingIn(g impl.Graph, a, b, c int) []int {
	for n := 1; n <= g.Size; n++ {
		way, ok := firstList(g, n, func(g impl.Graph, l []int) bool {
			fits := l[0] == a && l[n-1] == b
			for i, v := range l {
				fits = fits && v != c && !joined(g, v, c) && (i == 0 || joined(g, l[i-1], v))
			}
			return fits
		})
		if ok {
			return way
		}
	}
	return nil
}

func eachThree(n int, visit func(a, b, c int)) {
	for a := range n {
		for b := range n {
			for c := range n {
				visit(a, b, c)
			}
		}
	}
}

// tripleGraphs have triples, which smaller graphs without holes do not have, or nearly have some.
func tripleGraphs(t *testing.T) []impl.Graph {
	t.Helper()
	var graphs []impl.Graph
	for _, text := range []string{
		"6: 01 02 03 12 14 25", "6: 01 02 03 05 12 13 14 24 25", "7: 01 02 03 14 25 36", "7: 01 02 03 12 14 25 36", "7: 01 02 03 04 05 12 23 34 36 45",
		"7: 01 05 12 23 34 45", "7: 01 06 12 23 34 45 56", "7: 03 14 25 36 46 56", "7: 01 02 34 35 45 46", "7: 01 12 34 45",
	} {
		graphs = append(graphs, graphFrom(t, text))
	}
	return graphs
}

func TestAvoidingPath(t *testing.T) {
	check := func(g impl.Graph) {
		eachThree(g.Size, func(a, b, c int) {
			want := avoidingIn(g, a, b, c)
			way, ok := impl.AvoidingPath(g, a, b, c)
			checkList(t, "AvoidingPath in "+formatted(g), way, ok, want, want != nil)
		})
	}
	for n := 1; n <= 4; n++ {
		eachGraphOf(n, check)
	}
	for bits := 0; bits < 1<<10; bits += 17 {
		check(graphOf(5, bits))
	}
	check(graphFrom(t, "6: 01 02 03 12 14 25"))
	check(graphFrom(t, "6: 01 05 12 23 34 45"))
}

func TestAvoidingPathTakesTheFirstShortestOne(t *testing.T) {
	g := graphFrom(t, "7: 02 03 04 15 24 25 35 45")
	way, ok := impl.AvoidingPath(g, 0, 1, 6)
	checkList(t, "AvoidingPath", way, ok, []int{0, 2, 5, 1}, true)
	way, ok = impl.AvoidingPath(g, 1, 0, 6)
	checkList(t, "AvoidingPath", way, ok, []int{1, 5, 2, 0}, true)
	g = graphFrom(t, "7: 01 03 12 25 34 45")
	way, ok = impl.AvoidingPath(g, 0, 5, 6)
	checkList(t, "AvoidingPath", way, ok, []int{0, 1, 2, 5}, true)
	way, ok = impl.AvoidingPath(g, 5, 5, 0)
	checkList(t, "AvoidingPath", way, ok, []int{5}, true)
	way, ok = impl.AvoidingPath(g, 0, 0, 0)
	checkNoList(t, "AvoidingPath", way, ok)
	way, ok = impl.AvoidingPath(g, 1, 1, 0)
	checkNoList(t, "AvoidingPath", way, ok)
}

func TestTriples(t *testing.T) {
	check := func(g impl.Graph) {
		want := tripleIn(g)
		got, ok := impl.FindTriple(g)
		checkList(t, "FindTriple of "+formatted(g), got, ok, want, want != nil)
		eachThree(g.Size, func(a, b, c int) {
			isTriple := isTripleIn(g, a, b, c)
			if impl.IsTriple(g, a, b, c) != isTriple {
				t.Errorf("IsTriple(%v, %d, %d, %d) is %t", g, a, b, c, !isTriple)
			}
			ways, ok := impl.TriplePaths(g, a, b, c)
			if ok != isTriple || !ok && len(ways) != 0 {
				t.Errorf("TriplePaths(%v, %d, %d, %d) = %v, %t", g, a, b, c, ways, ok)
			}
		})
	}
	eachPartGraph(check)
	for _, g := range tripleGraphs(t) {
		check(g)
	}
}

func TestTriplePaths(t *testing.T) {
	for _, g := range tripleGraphs(t)[:7] {
		triple := tripleIn(g)
		eachList(3, 3, func(turn []int) bool {
			a, b, c := triple[turn[0]], triple[turn[1]], triple[turn[2]]
			ways, ok := impl.TriplePaths(g, a, b, c)
			if want := [][]int{avoidingIn(g, a, b, c), avoidingIn(g, b, c, a), avoidingIn(g, c, a, b)}; !ok || !equalLists(ways, want) {
				t.Errorf("TriplePaths(%v, %d, %d, %d) = %v, %t, want %v", g, a, b, c, ways, ok, want)
			}
			checkApart(t, "TriplePaths", append(ways, g.Rows)...)
			return true
		})
	}
}

func TestIntervalObstacle(t *testing.T) {
	check := func(g impl.Graph) {
		l, ok := impl.IntervalObstacle(g)
		want := tripleIn(g)
		for n := g.Size; n >= 4; n-- {
			if hole, found := firstList(g, n, isHoleIn); found {
				want = hole
			}
		}
		checkList(t, "IntervalObstacle of "+formatted(g), l, ok, want, want != nil)
		if ok == impl.IsInterval(g) || ok != impl.IsIntervalObstacle(g, l) {
			t.Errorf("%v has the obstacle %v", g, l)
		}
	}
	eachPartGraph(check)
	for _, g := range tripleGraphs(t) {
		check(g)
	}
}

func TestIsIntervalObstacle(t *testing.T) {
	check := func(g impl.Graph) {
		for n := range g.Size + 1 {
			eachList(g.Size, n, func(l []int) bool {
				want := isHoleIn(g, l) || n == 3 && isTripleIn(g, l[0], l[1], l[2])
				if impl.IsIntervalObstacle(g, l) != want {
					t.Errorf("IsIntervalObstacle(%v, %v) is %t", g, l, !want)
				}
				return true
			})
		}
	}
	eachPartGraph(func(g impl.Graph) {
		if g.Size < 6 {
			check(g)
		}
	})
	for _, g := range tripleGraphs(t)[:5] {
		check(g)
	}
	g := graphFrom(t, "7: 01 02 03 14 25 36")
	for _, l := range [][]int{{4, 5}, {4, 5, 5}, {4, 4, 4}, {4, 5, 7}, {-1, 5, 6}, {4, 5, 6, 0}, {4, 5, 6, 4}, {4, 5, 64}} {
		if impl.IsIntervalObstacle(g, l) {
			t.Errorf("IsIntervalObstacle accepts %v", l)
		}
	}
}

func TestThreeVerticesInDifferentParts(t *testing.T) {
	for _, text := range []string{"3:", "7: 01 02 12 34 56", "6: 03 14 25", "7: 01 12 34"} {
		g := graphFrom(t, text)
		parts := partsIn(g, 1<<g.Size-1)
		a, b, c := members(parts[0])[0], members(parts[1])[0], members(parts[2])[0]
		if impl.IsTriple(g, a, b, c) || impl.IsTriple(g, c, b, a) || impl.IsIntervalObstacle(g, []int{a, b, c}) {
			t.Errorf("%d, %d, %d are a triple of %q", a, b, c, text)
		}
		ways, ok := impl.TriplePaths(g, a, b, c)
		if ok || len(ways) != 0 {
			t.Errorf("TriplePaths = %v, %t", ways, ok)
		}
		way, ok := impl.AvoidingPath(g, a, b, c)
		checkNoList(t, "AvoidingPath", way, ok)
		l, ok := impl.FindTriple(g)
		checkNoList(t, "FindTriple", l, ok)
		l, ok = impl.IntervalObstacle(g)
		checkNoList(t, "IntervalObstacle", l, ok)
	}
}

func TestTripleFunctionsRefuseInvalidArguments(t *testing.T) {
	check := func(g impl.Graph, a, b, c int) {
		t.Helper()
		way, ok := impl.AvoidingPath(g, a, b, c)
		checkNoList(t, "AvoidingPath", way, ok)
		ways, ok := impl.TriplePaths(g, a, b, c)
		if ok || len(ways) != 0 || impl.IsTriple(g, a, b, c) || impl.IsIntervalObstacle(g, []int{a, b, c}) {
			t.Errorf("%v: %d, %d, %d are accepted", g, a, b, c)
		}
	}
	spider := graphFrom(t, "7: 01 02 03 14 25 36")
	for _, v := range append(strangeNumbers(), 7, 8, 63, 64) {
		check(spider, v, 5, 6)
		check(spider, 4, v, 6)
		check(spider, 4, 5, v)
		check(spider, v, v, v)
	}
	for _, g := range invalidGraphs() {
		eachThree(3, func(a, b, c int) { check(g, a, b, c) })
		l, ok := impl.FindTriple(g)
		checkNoList(t, "FindTriple", l, ok)
		l, ok = impl.IntervalObstacle(g)
		checkNoList(t, "IntervalObstacle", l, ok)
		if impl.IsIntervalObstacle(g, nil) || impl.IsIntervalObstacle(g, []int{0, 1, 2, 3}) {
			t.Errorf("IsIntervalObstacle accepts %v", g)
		}
	}
}

func TestTripleFunctionsLeaveArgumentsAlone(t *testing.T) {
	for _, plain := range append(append(invalidGraphs(), tripleGraphs(t)...), graphOf(4, 0b101101)) {
		g, checkRows := guardedGraph(plain)
		l, checkNumbers := guarded([]int{4, 5, 6})
		impl.IsTriple(g, 4, 5, 6)
		impl.IsIntervalObstacle(g, l)
		a, _ := impl.FindTriple(g)
		b, _ := impl.IntervalObstacle(g)
		c, _ := impl.AvoidingPath(g, 4, 5, 6)
		ways, _ := impl.TriplePaths(g, 4, 5, 6)
		checkApart(t, "results", slices.Concat(ways, [][]int{g.Rows, l, a, b, c})...)
		checkRows(t, "a function of chapter 11")
		checkNumbers(t, "a function of chapter 11")
	}
}

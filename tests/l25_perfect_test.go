package tests

import (
	"testing"

	"loop.example/g02081/impl"
)

// isCircle reports whether a set is one part in which each vertex has two neighbors.
func isCircle(g impl.Graph, set int) bool {
	circle := len(partsIn(g, set)) == 1
	for _, v := range members(set) {
		circle = circle && len(members(g.Rows[v]&set)) == 2
	}
	return circle
}

// imperfectIn is the least set that is an odd hole or the complement of one: these are the least parts that need more colors.
func imperfectIn(g impl.Graph) (int, bool) {
	for set := range 1 << g.Size {
		if n := len(members(set)); n >= 5 && n%2 == 1 && (isCircle(g, set) || isCircle(without(g), set)) {
			return set, true
		}
	}
	return 0, false
}

func isOddHoleIn(g impl.Graph, l []int) bool {
	return len(l)%2 == 1 && isHoleIn(g, l)
}

func oddHoleIn(g impl.Graph) ([]int, bool) {
	if hole, ok := firstList(g, 5, isOddHoleIn); ok {
		return hole, true
	}
	return firstList(g, 7, isOddHoleIn)
}

// imperfectGraphs have odd holes or complements of them, among other vertices, or nearly have some.
func imperfectGraphs() []impl.Graph {
	var graphs []impl.Graph
	for _, text := range []string{
		"5: 01 04 12 23 34", "5: 02 03 13 14 24", "6: 13 35 52 24 41", "6: 13 35 52 24 41 01 03", "6: 01 02 03 04 05 12 23 34 45 51", "7: 04 42 26 61 10 35", "7: 04 42 26 61 10 30 34 32 36 31 50",
		"7: 01 12 23 34 45 56 60", "7: 03 36 62 25 51 14 40", "7: 01 12 23 34 45 56 60 03", "6: 01 12 23 34 45 50", "7: 01 12 23 34 45 50 60 62 64", "5: 01 12 23 34 40 02",
	} {
		g := impl.Graph{Size: int(text[0] - '0'), Rows: rowsFrom(text)}
		graphs = append(graphs, g, without(g))
	}
	return graphs
}

func TestPerfectGraphs(t *testing.T) {
	perfect, others := 0, 0
	check := func(g impl.Graph) {
		want, wantOk := imperfectIn(g)
		set, ok := impl.LeastImperfect(g)
		if set != want || ok != wantOk || impl.IsPerfect(g) == wantOk {
			t.Errorf("LeastImperfect(%v) = %d, %t, want %d, %t", g, set, ok, want, wantOk)
		}
		if ok {
			others++
		} else {
			perfect++
		}
	}
	eachGraph(check)
	for bits := 17; bits < 1<<15; bits += 101 {
		check(graphOf(6, bits))
	}
	for _, g := range imperfectGraphs() {
		check(g)
	}
	if perfect == 0 || others == 0 {
		t.Errorf("%d perfect graphs, %d others", perfect, others)
	}
}

func TestPerfectGraphsNeedAsManyColorsAsACliqueHasVertices(t *testing.T) {
	check := func(g impl.Graph) {
		least, first := 0, true
		eachSet(g, func(set int) {
			if set == 0 {
				return
			}
			part := partOf(g, set)
			if more := fewestColors(part) > len(members(bestSet(part, func(set int) bool { return isCliqueIn(part, set) }))); more && first {
				least, first = set, false
			}
		})
		set, ok := impl.LeastImperfect(g)
		if set != least || ok == first || impl.IsPerfect(g) != first {
			t.Errorf("LeastImperfect(%v) = %d, %t, want %d, %t", g, set, ok, least, !first)
		}
		if first && (impl.ChromaticNumber(g) != impl.CliqueNumber(g) || len(impl.CliqueCoverOf(g)) != len(members(impl.LargestIndependent(g)))) {
			t.Errorf("%v is perfect, but needs more colors than a clique has vertices", g)
		}
	}
	eachPartGraph(check)
	for _, g := range imperfectGraphs() {
		check(g)
	}
}

func TestLeastImperfectIsTheSameEachTime(t *testing.T) {
	// Several sets of five are circles, and the search for each greatest vertex can find one.
	g := impl.Graph{Size: 7, Rows: rowsFrom("7: 01 12 23 34 40 51 53 54 62 60 63")}
	want, _ := imperfectIn(g)
	for range 300 {
		if set, ok := impl.LeastImperfect(g); set != want || !ok {
			t.Fatalf("LeastImperfect = %d, %t, want %d", set, ok, want)
		}
	}
}

func TestPerfectObstacles(t *testing.T) {
	check := func(g impl.Graph) {
		hole, ok := oddHoleIn(g)
		antihole, antiOk := oddHoleIn(without(g))
		got, gotOk := impl.FindOddHole(g)
		checkList(t, "FindOddHole of "+formatted(g), got, gotOk, hole, ok)
		got, gotOk = impl.FindAntihole(g)
		checkList(t, "FindAntihole of "+formatted(g), got, gotOk, antihole, antiOk)
		if !ok {
			hole, ok = antihole, antiOk
		}
		got, gotOk = impl.PerfectObstacle(g)
		checkList(t, "PerfectObstacle of "+formatted(g), got, gotOk, hole, ok)
		if gotOk == impl.IsPerfect(g) || gotOk != impl.IsPerfectObstacle(g, got) {
			t.Errorf("%v has the obstacle %v", g, got)
		}
	}
	eachPartGraph(check)
	eachGraphOf(5, check)
	for _, g := range imperfectGraphs() {
		check(g)
	}
}

func TestIsPerfectObstacle(t *testing.T) {
	check := func(g impl.Graph) {
		for n := range min(g.Size, 5) + 1 {
			eachList(g.Size, n, func(l []int) bool {
				if want := isOddHoleIn(g, l) || isOddHoleIn(without(g), l); impl.IsPerfectObstacle(g, l) != want {
					t.Errorf("IsPerfectObstacle(%v, %v) is %t", g, l, !want)
				}
				return true
			})
		}
	}
	for n := 1; n <= 4; n++ {
		eachGraphOf(n, check)
	}
	for _, g := range imperfectGraphs() {
		check(g)
	}
	g := named(t, "cycle", 7)
	for _, l := range [][]int{{0, 1, 2, 3, 4, 5, 6}, {3, 2, 1, 0, 6, 5, 4}} {
		if !impl.IsPerfectObstacle(g, l) || !impl.IsPerfectObstacle(without(g), l) {
			t.Errorf("IsPerfectObstacle refuses %v", l)
		}
	}
	for _, l := range [][]int{nil, {0}, {0, 1, 2}, {0, 1, 2, 3, 4}, {0, 1, 2, 3, 4, 6, 5}, {0, 2, 4, 6, 1, 3, 5}, {0, 1, 2, 3, 4, 5, 7}, {0, 1, 2, 3, 4, 5, 5}, {0, 1, 2, 3, 4, 5, -1}, {0, 1, 2, 3, 4, 5, 6, 0, 1}, make([]int, 1001)} {
		if impl.IsPerfectObstacle(g, l) || impl.IsPerfectObstacle(without(g), l) {
			t.Errorf("IsPerfectObstacle accepts %v", l)
		}
	}
	for _, v := range strangeNumbers() {
		if impl.IsPerfectObstacle(g, []int{0, 1, 2, 3, v}) || impl.IsPerfectObstacle(g, []int{v, 1, 2, 3, 4, 5, 6}) {
			t.Errorf("IsPerfectObstacle accepts %d", v)
		}
	}
}

func TestHoleOfSixVertices(t *testing.T) {
	hole := named(t, "cycle", 6)
	for _, g := range []impl.Graph{hole, without(hole)} {
		if set, ok := impl.LeastImperfect(g); set != 0 || ok || !impl.IsPerfect(g) {
			t.Errorf("LeastImperfect(%v) = %d, %t", g, set, ok)
		}
		for _, find := range []func(impl.Graph) ([]int, bool){impl.FindOddHole, impl.FindAntihole, impl.PerfectObstacle} {
			l, ok := find(g)
			checkNoList(t, "a search for odd holes", l, ok)
		}
		if impl.IsPerfectObstacle(g, []int{0, 1, 2, 3, 4, 5}) || impl.IsPerfectObstacle(g, []int{0, 1, 2, 3, 4}) {
			t.Error("a hole of six vertices is an obstacle")
		}
	}
}

func TestPerfectFunctionsRefuseInvalidGraphs(t *testing.T) {
	for _, g := range invalidGraphs() {
		if set, ok := impl.LeastImperfect(g); set != 0 || ok || impl.IsPerfect(g) {
			t.Errorf("LeastImperfect(%v) = %d, %t", g, set, ok)
		}
		for _, find := range []func(impl.Graph) ([]int, bool){impl.FindOddHole, impl.FindAntihole, impl.PerfectObstacle} {
			l, ok := find(g)
			checkNoList(t, "a search for odd holes", l, ok)
		}
		if impl.IsPerfectObstacle(g, nil) || impl.IsPerfectObstacle(g, []int{0, 1, 2, 3, 4}) {
			t.Errorf("IsPerfectObstacle accepts %v", g)
		}
	}
}

func TestPerfectFunctionsLeaveArgumentsAlone(t *testing.T) {
	for _, plain := range append(invalidGraphs(), imperfectGraphs()...) {
		g, checkRows := guardedGraph(plain)
		l, checkNumbers := guarded([]int{0, 1, 2, 3, 4})
		impl.IsPerfect(g)
		impl.LeastImperfect(g)
		impl.IsPerfectObstacle(g, l)
		a, _ := impl.FindOddHole(g)
		b, _ := impl.FindAntihole(g)
		c, _ := impl.PerfectObstacle(g)
		checkApart(t, "results", g.Rows, l, a, b, c)
		checkRows(t, "a function of chapter 25")
		checkNumbers(t, "a function of chapter 25")
	}
}

package tests

import (
	"testing"

	"loop.example/g02081/impl"
)

func isWayIn(g impl.Graph, l []int) bool {
	if len(l) == 0 || !areDifferentIn(g, l) {
		return false
	}
	for i := 1; i < len(l); i++ {
		if !joined(g, l[i-1], l[i]) {
			return false
		}
	}
	return true
}

// hamiltonIn goes through all orders for the first way, the first way around, and the number of ways.
func hamiltonIn(g impl.Graph) (path, cycle []int, n int) {
	eachList(g.Size, g.Size, func(l []int) bool {
		if !isWayIn(g, l) {
			return true
		}
		n++
		if path == nil {
			path = l
		}
		if cycle == nil && l[0] == 0 && len(l) >= 3 && joined(g, 0, l[len(l)-1]) {
			cycle = l
		}
		return true
	})
	return path, cycle, n
}

func checkHamilton(t *testing.T, g impl.Graph) {
	t.Helper()
	path, cycle, n := hamiltonIn(g)
	l, ok := impl.HamiltonPath(g)
	checkList(t, "HamiltonPath of "+formatted(g), l, ok, path, path != nil)
	l, ok = impl.HamiltonCycle(g)
	checkList(t, "HamiltonCycle of "+formatted(g), l, ok, cycle, cycle != nil)
	if got := impl.CountHamiltonPaths(g); got != n {
		t.Errorf("CountHamiltonPaths(%v) = %d, want %d", g, got, n)
	}
}

func TestWaysOfHamilton(t *testing.T) {
	for n := 1; n <= 5; n++ {
		eachGraphOf(n, func(g impl.Graph) { checkHamilton(t, g) })
	}
	for bits := 11; bits < 1<<15; bits += 331 {
		checkHamilton(t, graphOf(6, bits))
	}
	for _, text := range []string{
		"7: 01 12 23 34 45 56 60", "7: 03 36 62 25 51 14 40", "7: 03 36 62 25 51 14", "7: 03 04 05 06 13 14 15 16 23 24 25 26", "7: 03 04 13 14 23 24 53 54 63 64", "7: 06 61 15 52 24 43 30 13 26",
		"7: 01 02 03 04 05 06 12 13 14 15 16 23 24 25 26 34 35 36 45 46 56", "7: 01 02 03 14 25 36", "7: 20 21 23 24 56 61",
	} {
		checkHamilton(t, impl.Graph{Size: 7, Rows: rowsFrom(text)})
	}
}

func TestIsWay(t *testing.T) {
	eachPartGraph(func(g impl.Graph) {
		for n := range min(g.Size, 5) + 1 {
			eachList(g.Size, n, func(l []int) bool {
				if want := isWayIn(g, l); impl.IsWay(g, l) != want {
					t.Errorf("IsWay(%v, %v) is %t", g, l, !want)
				}
				return true
			})
		}
	})
	g := named(t, "complete", 6)
	for _, l := range [][]int{nil, {}, {6}, {-1}, {0, 0}, {0, 1, 0}, {0, 1, 6}, {0, 1, -1}, {0, 64}, {0, 1, 2, 3, 4, 5, 0}, {0, 1, 2, 3, 4, 5, 6}, make([]int, 1000)} {
		if impl.IsWay(g, l) {
			t.Errorf("IsWay accepts %v", l)
		}
	}
	for _, v := range strangeNumbers() {
		if impl.IsWay(g, []int{v}) || impl.IsWay(g, []int{0, v}) || impl.IsWay(g, []int{v, 1}) {
			t.Errorf("IsWay accepts %d", v)
		}
	}
	if !impl.IsWay(g, []int{5, 0, 4, 1, 3, 2}) || !impl.IsWay(g, []int{3}) || impl.IsWay(named(t, "path", 4), []int{0, 1, 3}) {
		t.Error("IsWay does not tell ways")
	}
}

func TestToughnessWitness(t *testing.T) {
	found := 0
	check := func(g impl.Graph) {
		want, wantOk := 0, false
		for set := range 1 << g.Size {
			if parts := len(partsIn(g, (1<<g.Size-1)&^set)); parts >= 2 && parts > len(members(set)) && !wantOk {
				want, wantOk = set, true
			}
		}
		set, ok := impl.ToughnessWitness(g)
		if set != want || ok != wantOk {
			t.Errorf("ToughnessWitness(%v) = %d, %t, want %d, %t", g, set, ok, want, wantOk)
		}
		if _, cycle := impl.HamiltonCycle(g); ok && cycle {
			t.Errorf("%v has a way around, but also the witness %d", g, set)
		}
		if ok {
			found++
		}
	}
	eachGraph(check)
	for text, want := range map[string]int{"7: 03 04 13 14 23 24 53 54 63 64": 0b0011000, "7: 05 06 15 16 25 26 35 36 45 46 56": 0b1100000, "7: 01 12 20 23 34 45 53 46": 0b0000100, "5: 01 12 20 34": 0} {
		g := impl.Graph{Size: int(text[0] - '0'), Rows: rowsFrom(text)}
		check(g)
		if set, ok := impl.ToughnessWitness(g); set != want || !ok {
			t.Errorf("ToughnessWitness of %q = %b, %t, want %b", text, set, ok, want)
		}
	}
	if found == 0 {
		t.Error("there are no witnesses")
	}
}

func TestCutVertices(t *testing.T) {
	eachGraph(func(g impl.Graph) {
		want, all := 0, 1<<g.Size-1
		for v := range g.Size {
			way := reachable(g, all&^(1<<v))
			for _, a := range members(g.Rows[v]) {
				for _, b := range members(g.Rows[v]) {
					if !way[a][b] {
						want |= 1 << v
					}
				}
			}
		}
		if got := impl.CutVertices(g); got != want {
			t.Errorf("CutVertices(%v) = %b, want %b", g, got, want)
		}
	})
	if got := impl.CutVertices(graphFrom(t, "7: 01 02 12 23 34 35 45")); got != 0b0001100 {
		t.Errorf("CutVertices = %b", got)
	}
}

func TestConnectedProperIntervalGraphsHaveWaysOfHamilton(t *testing.T) {
	proper, around := 0, 0
	check := func(g impl.Graph) {
		if !impl.IsProper(g) || len(partsIn(g, 1<<g.Size-1)) != 1 {
			return
		}
		proper++
		way, ok := impl.HamiltonPath(g)
		if !ok || len(way) != g.Size || !isWayIn(g, way) || impl.CountHamiltonPaths(g) == 0 {
			t.Errorf("%v is connected and proper, but HamiltonPath = %v, %t", g, way, ok)
		}
		// One that no vertex cuts also has a way around.
		if g.Size >= 3 && impl.CutVertices(g) == 0 {
			around++
			way, ok := impl.HamiltonCycle(g)
			if !ok || len(way) != g.Size || !isWayIn(g, way) || !joined(g, way[0], way[g.Size-1]) {
				t.Errorf("%v is proper and has no cut, but HamiltonCycle = %v, %t", g, way, ok)
			}
		}
	}
	eachGraph(check)
	for bits := 1; bits < 1<<15; bits += 3 {
		check(graphOf(6, bits))
	}
	if around == 0 || proper <= around {
		t.Errorf("%d proper graphs, %d without cuts", proper, around)
	}
}

func TestWaysOfTwoVertices(t *testing.T) {
	edge, apart := graphFrom(t, "2: 01"), graphFrom(t, "2:")
	way, ok := impl.HamiltonPath(edge)
	checkList(t, "HamiltonPath", way, ok, []int{0, 1}, true)
	way, ok = impl.HamiltonPath(apart)
	checkNoList(t, "HamiltonPath", way, ok)
	for _, g := range []impl.Graph{edge, apart, graphFrom(t, "1:")} {
		way, ok = impl.HamiltonCycle(g)
		checkNoList(t, "HamiltonCycle", way, ok)
		if impl.CutVertices(g) != 0 {
			t.Errorf("CutVertices(%v) = %d", g, impl.CutVertices(g))
		}
	}
	if impl.CountHamiltonPaths(edge) != 2 || impl.CountHamiltonPaths(apart) != 0 || impl.CountHamiltonPaths(graphFrom(t, "1:")) != 1 || impl.CountHamiltonPaths(named(t, "complete", 7)) != 5040 {
		t.Error("CountHamiltonPaths does not count both directions")
	}
	if set, ok := impl.ToughnessWitness(edge); set != 0 || ok {
		t.Errorf("ToughnessWitness of an edge = %d, %t", set, ok)
	}
	if set, ok := impl.ToughnessWitness(apart); set != 0 || !ok {
		t.Errorf("ToughnessWitness of two vertices = %d, %t", set, ok)
	}
	if !impl.IsWay(edge, []int{1, 0}) || !impl.IsWay(apart, []int{1}) || impl.IsWay(apart, []int{0, 1}) {
		t.Error("IsWay does not tell ways of two vertices")
	}
}

func TestHamiltonFunctionsRefuseInvalidGraphs(t *testing.T) {
	for _, g := range invalidGraphs() {
		way, ok := impl.HamiltonPath(g)
		checkNoList(t, "HamiltonPath", way, ok)
		way, ok = impl.HamiltonCycle(g)
		checkNoList(t, "HamiltonCycle", way, ok)
		if set, ok := impl.ToughnessWitness(g); set != 0 || ok {
			t.Errorf("ToughnessWitness(%v) = %d, %t", g, set, ok)
		}
		if impl.CutVertices(g) != 0 || impl.CountHamiltonPaths(g) != 0 || impl.IsWay(g, nil) || impl.IsWay(g, []int{0}) || impl.IsWay(g, []int{0, 1}) {
			t.Errorf("%v is accepted", g)
		}
	}
}

func TestHamiltonFunctionsLeaveArgumentsAlone(t *testing.T) {
	for _, plain := range append(invalidGraphs(), graphOf(4, 0b111101), graphOf(4, 0), graphOf(7, 1<<21-1)) {
		g, checkRows := guardedGraph(plain)
		l, checkNumbers := guarded([]int{3, 1, 2, 0})
		impl.IsWay(g, l)
		impl.ToughnessWitness(g)
		impl.CutVertices(g)
		impl.CountHamiltonPaths(g)
		path, _ := impl.HamiltonPath(g)
		cycle, _ := impl.HamiltonCycle(g)
		checkApart(t, "results", g.Rows, l, path, cycle)
		checkRows(t, "a function of chapter 28")
		checkNumbers(t, "a function of chapter 28")
	}
}

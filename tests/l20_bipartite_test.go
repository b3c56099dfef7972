package tests

import (
	"slices"
	"testing"

	"loop.example/g02081/impl"
)

// sidesIn looks up the distances from the least vertex of each part.
func sidesIn(g impl.Graph) (int, bool) {
	far, even := distancesIn(g), 0
	for _, part := range partsIn(g, 1<<g.Size-1) {
		for _, v := range members(part) {
			if far[members(part)[0]][v]%2 == 0 {
				even |= 1 << v
			}
		}
	}
	if edgesWithin(g, even) > 0 || edgesWithin(g, (1<<g.Size-1)&^even) > 0 {
		return 0, false
	}
	return even, true
}

func isOddCycleIn(g impl.Graph, l []int) bool {
	if len(l) < 3 || len(l)%2 == 0 || !areDifferentIn(g, l) {
		return false
	}
	for i := 1; i < len(l); i++ {
		if !joined(g, l[i-1], l[i]) {
			return false
		}
	}
	return joined(g, l[len(l)-1], l[0])
}

// matchingsIn visits all sets of edges without a common vertex; those with the first edge come first.
func matchingsIn(g impl.Graph, visit func(l [][]int)) {
	edges := edgeList(g)
	var choose func(i, matched int, l [][]int)
	choose = func(i, matched int, l [][]int) {
		if i == len(edges) {
			visit(l)
			return
		}
		if both := setFrom(edges[i]); matched&both == 0 {
			choose(i+1, matched|both, append(slices.Clone(l), edges[i]))
		}
		choose(i+1, matched, l)
	}
	choose(0, 0, nil)
}

func bestMatching(g impl.Graph) [][]int {
	var best [][]int
	matchingsIn(g, func(l [][]int) {
		if len(l) > len(best) {
			best = l
		}
	})
	return best
}

// coverIn is the least number of a set with fewest vertices that leaves no edge.
func coverIn(g impl.Graph) int {
	best := 1<<g.Size - 1
	eachSet(g, func(set int) {
		left := edgesWithin(g, (1<<g.Size-1)&^set)
		if n := len(members(set)); left == 0 && (n < len(members(best)) || n == len(members(best)) && set < best) {
			best = set
		}
	})
	return best
}

func TestSides(t *testing.T) {
	eachGraph(func(g impl.Graph) {
		want, wantOk := sidesIn(g)
		got, ok := impl.SidesOf(g)
		if got != want || ok != wantOk || impl.IsBipartite(g) != wantOk {
			t.Errorf("SidesOf(%v) = %d, %t, want %d, %t", g, got, ok, want, wantOk)
		}
	})
	for text, want := range map[string]int{"7: 16 26 35 45": 0b0011111, "6: 03 13 14 25": 0b000111, "7: 01 12 23 34 45 56": 0b1010101, "6: 04 05 14 15 23": 0b000111} {
		if got, ok := impl.SidesOf(graphFrom(t, text)); !ok || got != want {
			t.Errorf("SidesOf %q = %d, %t, want %d", text, got, ok, want)
		}
	}
}

func TestOddCycles(t *testing.T) {
	eachPartGraph(func(g impl.Graph) {
		for n := range g.Size + 1 {
			eachList(g.Size, n, func(l []int) bool {
				if impl.IsOddCycle(g, l) != isOddCycleIn(g, l) {
					t.Errorf("IsOddCycle(%v, %v) is %t", g, l, impl.IsOddCycle(g, l))
				}
				return true
			})
		}
	})
	check := func(g impl.Graph) {
		var want []int
		ok := false
		for n := 3; n <= g.Size && !ok; n += 2 {
			want, ok = firstList(g, n, isOddCycleIn)
		}
		got, gotOk := impl.FindOddCycle(g)
		checkList(t, "FindOddCycle of "+formatted(g), got, gotOk, want, ok)
		if gotOk == impl.IsBipartite(g) || gotOk != impl.IsOddCycle(g, got) {
			t.Errorf("%v has the odd cycle %v", g, got)
		}
	}
	eachGraph(check)
	for _, text := range []string{"7: 01 06 12 23 34 45 56", "7: 03 05 14 15 24 26 36", "6: 04 12 15 23 34 45", "7: 03 14 15 26 34 45 56", "7: 01 05 12 23 34 45 46"} {
		check(graphFrom(t, text))
	}
}

func TestIsOddCycleRefusesOtherLists(t *testing.T) {
	g := named(t, "complete", 6)
	for _, l := range [][]int{nil, {0}, {0, 1}, {0, 0, 1}, {0, 1, 0}, {0, 1, 6}, {0, 1, -1}, {0, 1, 64}, {0, 1, 2, 3}, {0, 1, 2, 0, 1}, {0, 1, 2, 3, 4, 5, 0}, {0, 1, 2, 3, 4, 5, 6}, make([]int, 1001)} {
		if impl.IsOddCycle(g, l) {
			t.Errorf("IsOddCycle accepts %v", l)
		}
	}
	for _, v := range strangeNumbers() {
		if impl.IsOddCycle(g, []int{0, 1, v}) || impl.IsOddCycle(g, []int{v, 1, 2}) {
			t.Errorf("IsOddCycle accepts %d", v)
		}
	}
	if !impl.IsOddCycle(g, []int{5, 0, 4, 1, 3}) || impl.IsOddCycle(graphFrom(t, "3: 01 12"), []int{0, 1, 2}) {
		t.Error("IsOddCycle does not tell circles")
	}
}

func TestMatchingOf(t *testing.T) {
	check := func(g impl.Graph) {
		want := bestMatching(g)
		got := impl.MatchingOf(g)
		if !equalLists(got, want) || !impl.IsMatching(g, got) {
			t.Errorf("MatchingOf(%v) = %v, want %v", g, got, want)
		}
		checkApart(t, "MatchingOf", append(got, g.Rows)...)
	}
	eachGraph(check)
	for _, text := range []string{"4: 01 02 13", "6: 01 02 13 24", "7: 03 13 14 24 25 36", "7: 12 13 14 25 36", "7: 01 02 12 23 34 35 45"} {
		check(graphFrom(t, text))
	}
}

func TestIsMatching(t *testing.T) {
	g := graphFrom(t, "6: 01 12 23 34 45")
	for _, l := range [][][]int{nil, {{0, 1}}, {{1, 0}}, {{0, 1}, {2, 3}}, {{2, 3}, {0, 1}}, {{4, 5}, {3, 2}, {1, 0}}, {{1, 2}, {3, 4}}} {
		if !impl.IsMatching(g, l) {
			t.Errorf("IsMatching(%v) is false", l)
		}
	}
	for _, l := range [][][]int{{{0, 2}}, {{0, 0}}, {{0}}, {nil}, {{}}, {{0, 1, 2}}, {{0, 1}, {1, 2}}, {{0, 1}, {0, 1}}, {{0, 1}, {1, 0}}, {{0, 1}, {2, 3}, {3, 4}}, {{0, 1}, {4, 2}}, {{5, 6}}, {{-1, 0}}, {{0, 1}, {2, 64}}, {{0, 1}, nil}} {
		if impl.IsMatching(g, l) {
			t.Errorf("IsMatching(%v) is true", l)
		}
	}
	for _, v := range strangeNumbers() {
		if impl.IsMatching(g, [][]int{{0, v}}) || impl.IsMatching(g, [][]int{{v, 0}}) || impl.IsMatching(g, [][]int{{v, v}}) {
			t.Errorf("IsMatching accepts %d", v)
		}
	}
}

func TestCovers(t *testing.T) {
	eachGraph(func(g impl.Graph) {
		eachSet(g, func(set int) {
			want := edgesWithin(g, (1<<g.Size-1)&^set) == 0
			if impl.IsCover(g, set) != want {
				t.Errorf("IsCover(%v, %d) is %t", g, set, !want)
			}
		})
		if got, want := impl.CoverOf(g), coverIn(g); got != want {
			t.Errorf("CoverOf(%v) = %d, want %d", g, got, want)
		}
	})
}

func TestLargestMatchingIsAsLargeAsTheLeastCover(t *testing.T) {
	bipartite, larger := 0, 0
	check := func(g impl.Graph) {
		matched, covered := len(impl.MatchingOf(g)), len(members(impl.CoverOf(g)))
		if impl.IsBipartite(g) {
			if bipartite++; matched != covered {
				t.Errorf("%v has a matching of %d edges and a cover of %d vertices", g, matched, covered)
			}
		} else if matched < covered {
			larger++
		}
		if matched > covered {
			t.Errorf("%v has a matching of %d edges and a cover of %d vertices", g, matched, covered)
		}
	}
	eachGraph(check)
	for bits := 3; bits < 1<<15; bits += 11 {
		check(graphOf(6, bits))
	}
	if bipartite == 0 || larger == 0 {
		t.Errorf("%d bipartite graphs, %d others with larger covers", bipartite, larger)
	}
}

func TestVertexWithoutNeighbors(t *testing.T) {
	for text, want := range map[string]struct{ sides, cover, edges int }{
		"1:": {1, 0, 0}, "2:": {3, 0, 0}, "3: 12": {3, 2, 1}, "3: 02": {3, 1, 1}, "4: 03 13": {0b0111, 0b1000, 1}, "7: 06 15": {0b0011111, 0b0000011, 2},
	} {
		g := graphFrom(t, text)
		sides, ok := impl.SidesOf(g)
		if sides != want.sides || !ok || !impl.IsBipartite(g) {
			t.Errorf("SidesOf %q = %d, %t", text, sides, ok)
		}
		if cover := impl.CoverOf(g); cover != want.cover || len(impl.MatchingOf(g)) != want.edges {
			t.Errorf("CoverOf %q = %d, MatchingOf = %v", text, cover, impl.MatchingOf(g))
		}
	}
	for n := 1; n <= 7; n++ {
		g := named(t, "empty", n)
		if sides, ok := impl.SidesOf(g); sides != 1<<n-1 || !ok || impl.CoverOf(g) != 0 || len(impl.MatchingOf(g)) != 0 || !impl.IsMatching(g, nil) || !impl.IsCover(g, 0) {
			t.Errorf("SidesOf %d vertices without edges = %d, %t", n, sides, ok)
		}
	}
}

func TestBipartiteFunctionsRefuseInvalidArguments(t *testing.T) {
	for _, set := range append(strangeNumbers(), 4, 8) {
		if impl.IsCover(graphFrom(t, "2: 01"), set) {
			t.Errorf("IsCover accepts the set %d", set)
		}
	}
	for _, g := range invalidGraphs() {
		sides, ok := impl.SidesOf(g)
		if sides != 0 || ok || impl.IsBipartite(g) || impl.CoverOf(g) != -1 || len(impl.MatchingOf(g)) != 0 {
			t.Errorf("SidesOf(%v) = %d, %t", g, sides, ok)
		}
		l, ok := impl.FindOddCycle(g)
		checkNoList(t, "FindOddCycle", l, ok)
		if impl.IsMatching(g, nil) || impl.IsMatching(g, [][]int{{0, 1}}) || impl.IsOddCycle(g, nil) || impl.IsOddCycle(g, []int{0, 1, 2}) {
			t.Errorf("%v is accepted", g)
		}
		for set := range 9 {
			if impl.IsCover(g, set) {
				t.Errorf("IsCover(%v, %d) is true", g, set)
			}
		}
	}
}

func TestBipartiteFunctionsLeaveArgumentsAlone(t *testing.T) {
	for _, plain := range append(invalidGraphs(), graphOf(4, 0b101101), graphOf(5, 3), graphOf(7, 12345)) {
		g, checkRows := guardedGraph(plain)
		l, checkNumbers := guarded([]int{3, 1, 2})
		edge, checkEdge := guarded([]int{0, 1})
		impl.SidesOf(g)
		impl.IsBipartite(g)
		impl.IsOddCycle(g, l)
		impl.IsMatching(g, [][]int{edge, l})
		impl.CoverOf(g)
		impl.IsCover(g, 3)
		cycle, _ := impl.FindOddCycle(g)
		checkApart(t, "results", append(impl.MatchingOf(g), g.Rows, l, edge, cycle)...)
		checkRows(t, "a function of chapter 20")
		checkNumbers(t, "a function of chapter 20")
		checkEdge(t, "a function of chapter 20")
	}
}

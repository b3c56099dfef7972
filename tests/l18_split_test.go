package tests

import (
	"slices"
	"testing"

	"loop.example/g02081/impl"
)

// splitsIn lists the cliques without which no two neighbors are left.
func splitsIn(g impl.Graph) []int {
	var splits []int
	eachSet(g, func(set int) {
		if isCliqueIn(g, set) && edgesWithin(g, (1<<g.Size-1)&^set) == 0 {
			splits = append(splits, set)
		}
	})
	return splits
}

// degreesIn counts for each possible degree, the greatest one first, the vertices that have it.
func degreesIn(g impl.Graph) []int {
	var degrees []int
	for degree := 6; degree >= 0; degree-- {
		for v := range g.Size {
			if len(members(g.Rows[v])) == degree {
				degrees = append(degrees, degree)
			}
		}
	}
	return degrees
}

func checkNoSplit(t *testing.T, g impl.Graph) {
	t.Helper()
	set, ok := impl.SplitOf(g)
	if set != 0 || ok || impl.IsSplit(g) || impl.SplitByDegrees(g) || impl.CountSplits(g) != 0 {
		t.Errorf("SplitOf(%v) = %d, %t, SplitByDegrees is %t, CountSplits = %d", g, set, ok, impl.SplitByDegrees(g), impl.CountSplits(g))
	}
}

func TestSplitPartitions(t *testing.T) {
	eachGraph(func(g impl.Graph) {
		want := splitsIn(g)
		eachSet(g, func(set int) {
			if impl.IsSplitPartition(g, set) != slices.Contains(want, set) {
				t.Errorf("IsSplitPartition(%v, %d) is %t", g, set, impl.IsSplitPartition(g, set))
			}
		})
		if len(want) == 0 {
			checkNoSplit(t, g)
			return
		}
		set, ok := impl.SplitOf(g)
		if set != want[0] || !ok || !impl.IsSplit(g) || impl.CountSplits(g) != len(want) {
			t.Errorf("SplitOf(%v) = %d, %t, CountSplits = %d, want the splits %v", g, set, ok, impl.CountSplits(g), want)
		}
	})
}

func TestDegreesTellSplitGraphs(t *testing.T) {
	check := func(g impl.Graph) {
		if want := len(splitsIn(g)) > 0; impl.SplitByDegrees(g) != want || impl.IsSplit(g) != want {
			t.Errorf("SplitByDegrees(%v) is %t, want %t", g, impl.SplitByDegrees(g), want)
		}
	}
	eachGraph(check)
	for bits := 0; bits < 1<<15; bits += 7 {
		check(graphOf(6, bits))
	}
	splits := make([]int, 6)
	for n := 1; n <= 5; n++ {
		eachGraphOf(n, func(g impl.Graph) {
			if impl.SplitByDegrees(g) {
				splits[n]++
			}
		})
	}
	if !slices.Equal(splits, []int{0, 1, 2, 8, 58, 632}) {
		t.Errorf("numbers of split graphs: %v", splits)
	}
}

func TestDegreesOf(t *testing.T) {
	eachGraph(func(g impl.Graph) {
		if got, want := impl.DegreesOf(g), degreesIn(g); !slices.Equal(got, want) {
			t.Errorf("DegreesOf(%v) = %v, want %v", g, got, want)
		}
	})
	if got := impl.DegreesOf(graphFrom(t, "7: 06 15 16 25 26 35 36 45 46 56")); !slices.Equal(got, []int{6, 5, 2, 2, 2, 2, 1}) {
		t.Errorf("DegreesOf = %v", got)
	}
}

func TestSplitObstacle(t *testing.T) {
	check := func(g impl.Graph) {
		want, ok := firstList(g, 4, isTwoEdgesIn)
		for n := 4; n <= g.Size && !ok; n++ {
			want, ok = firstList(g, n, isHoleIn)
		}
		got, gotOk := impl.SplitObstacle(g)
		checkList(t, "SplitObstacle of "+formatted(g), got, gotOk, want, ok)
		if gotOk == (len(splitsIn(g)) > 0) || gotOk != impl.IsSplitObstacle(g, got) {
			t.Errorf("%v has the obstacle %v", g, got)
		}
	}
	eachPartGraph(check)
	for _, text := range []string{"5: 01 04 12 23 34", "6: 01 05 12 23 34 45", "4: 01 03 12 23", "7: 02 03 05 13 14 24 25", "6: 01 02 03 12 14 25"} {
		check(graphFrom(t, text))
	}
}

func TestIsSplitObstacle(t *testing.T) {
	check := func(g impl.Graph) {
		for n := range g.Size + 1 {
			eachList(g.Size, n, func(l []int) bool {
				if want := isTwoEdgesIn(g, l) || n <= 5 && isHoleIn(g, l); impl.IsSplitObstacle(g, l) != want {
					t.Errorf("IsSplitObstacle(%v, %v) is %t", g, l, !want)
				}
				return true
			})
		}
	}
	for n := 1; n <= 4; n++ {
		eachGraphOf(n, check)
	}
	for _, text := range []string{"5: 01 04 12 23 34", "6: 01 05 12 23 34 45", "7: 01 06 12 23 34 45 56", "5: 01 02 12 13 34", "6: 01 03 12 23 45"} {
		check(graphFrom(t, text))
	}
	for _, l := range [][]int{{0, 1, 2, 2}, {0, 1, 2, 4}, {0, 1, 2, -1}, {0, 1, 2, 64}, {0, 1, 2, 3, 0}} {
		if impl.IsSplitObstacle(graphFrom(t, "4: 01 03 12 23"), l) {
			t.Errorf("IsSplitObstacle accepts %v", l)
		}
	}
}

func TestSplitsOfAGraphWithoutEdges(t *testing.T) {
	for n := 1; n <= 7; n++ {
		g := named(t, "empty", n)
		set, ok := impl.SplitOf(g)
		if set != 0 || !ok || !impl.IsSplit(g) || !impl.SplitByDegrees(g) || impl.CountSplits(g) != n+1 {
			t.Errorf("SplitOf %d vertices without edges = %d, %t, CountSplits = %d", n, set, ok, impl.CountSplits(g))
		}
		if !impl.IsSplitPartition(g, 0) || !impl.IsSplitPartition(g, 1<<(n-1)) || n > 1 && impl.IsSplitPartition(g, 3) {
			t.Error("IsSplitPartition does not tell cliques of at most one vertex")
		}
		if !slices.Equal(impl.DegreesOf(g), make([]int, n)) {
			t.Errorf("DegreesOf = %v", impl.DegreesOf(g))
		}
		l, ok := impl.SplitObstacle(g)
		checkNoList(t, "SplitObstacle", l, ok)
	}
}

func TestSplitFunctionsRefuseInvalidArguments(t *testing.T) {
	for _, set := range append(strangeNumbers(), 4, 7, 8) {
		if impl.IsSplitPartition(graphFrom(t, "2: 01"), set) {
			t.Errorf("IsSplitPartition accepts the set %d", set)
		}
	}
	for _, g := range invalidGraphs() {
		checkNoSplit(t, g)
		l, ok := impl.SplitObstacle(g)
		checkNoList(t, "SplitObstacle", l, ok)
		if len(impl.DegreesOf(g)) != 0 || impl.IsSplitObstacle(g, nil) || impl.IsSplitObstacle(g, []int{0, 1, 2, 3}) {
			t.Errorf("DegreesOf(%v) = %v", g, impl.DegreesOf(g))
		}
		for set := range 9 {
			if impl.IsSplitPartition(g, set) {
				t.Errorf("IsSplitPartition(%v, %d) is true", g, set)
			}
		}
	}
}

func TestSplitFunctionsLeaveArgumentsAlone(t *testing.T) {
	for _, plain := range append(invalidGraphs(), graphOf(4, 0b101101), graphOf(5, 3), graphOf(7, 12345)) {
		g, checkRows := guardedGraph(plain)
		l, checkNumbers := guarded([]int{3, 1, 2, 0})
		impl.IsSplitPartition(g, 3)
		impl.SplitOf(g)
		impl.IsSplit(g)
		impl.SplitByDegrees(g)
		impl.IsSplitObstacle(g, l)
		impl.CountSplits(g)
		obstacle, _ := impl.SplitObstacle(g)
		checkApart(t, "results", g.Rows, l, obstacle, impl.DegreesOf(g))
		checkRows(t, "a function of chapter 18")
		checkNumbers(t, "a function of chapter 18")
	}
}

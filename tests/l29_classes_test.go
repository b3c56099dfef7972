package tests

import (
	"slices"
	"testing"

	"loop.example/g02081/impl"
)

// isMemberIn tells members by what they must not have or by trial, without the program's functions.
func isMemberIn(g impl.Graph, name string) bool {
	switch name {
	case "chordal":
		return !hasHole(g)
	case "interval":
		return !hasHole(g) && tripleIn(g) == nil
	case "proper":
		_, claw := firstList(g, 4, isClawIn)
		return !claw && isMemberIn(g, "interval")
	case "cograph":
		return !hasPathOfFour(g)
	case "split":
		return len(splitsIn(g)) > 0
	case "threshold":
		_, _, ok := thresholdIn(g)
		return ok
	case "bipartite":
		_, ok := sidesIn(g)
		return ok
	case "strong":
		return !hasHole(g) && !hasSun(g)
	case "perfect":
		_, imperfect := imperfectIn(g)
		return !imperfect
	}
	return false
}

// isObstacleIn tells lists of vertices by their edges.
func isObstacleIn(g impl.Graph, name string, l []int) bool {
	triple := len(l) == 3 && isTripleIn(g, l[0], l[1], l[2])
	switch name {
	case "chordal":
		return isHoleIn(g, l)
	case "interval":
		return isHoleIn(g, l) || triple
	case "proper":
		return isHoleIn(g, l) || triple || isClawIn(g, l)
	case "cograph":
		return len(l) == 4 && isPathIn(g, l)
	case "split":
		return isTwoEdgesIn(g, l) || len(l) <= 5 && isHoleIn(g, l)
	case "threshold":
		return isThresholdObstacleIn(g, l)
	case "bipartite":
		return isOddCycleIn(g, l)
	case "strong":
		return isHoleIn(g, l) || isSunIn(g, l)
	case "perfect":
		return isOddHoleIn(g, l) || isOddHoleIn(without(g), l)
	}
	return false
}

func classNames() []string {
	return []string{"chordal", "interval", "proper", "cograph", "split", "threshold", "bipartite", "strong", "perfect"}
}

// noClassNames are near to names of classes, or are names of what has no class here.
func noClassNames() []string {
	return []string{"", " ", "planar", "Chordal", "chordal ", " chordal", "chordalinterval", "chord", "cographs", "comparability", "permutation", "hereditary", "none", "0", "\x00", "perfect\n", "é"}
}

// classGraphs are graphs of 6 and 7 vertices that tell classes apart.
func classGraphs() []impl.Graph {
	graphs := append(suns(), imperfectGraphs()...)
	for _, text := range []string{"7: 01 02 03 14 25 36", "6: 01 05 12 23 34 45", "7: 01 12 23 34 45 56", "6: 03 04 05 13 14 15 23 24 25", "7: 01 02 03 12 14 25 36", "6: 01 23 45", "7: 01 02 03 04 05 06 12 13 23"} {
		graphs = append(graphs, impl.Graph{Size: int(text[0] - '0'), Rows: rowsFrom(text)})
	}
	return graphs
}

func TestClassNames(t *testing.T) {
	for range 2 {
		names := impl.ClassNames()
		if !slices.Equal(names, classNames()) {
			t.Errorf("ClassNames = %q", names)
		}
		// What is done to a result must not reach the next one.
		for i := range names {
			names[i] = "planar"
		}
	}
}

func TestClassesHaveJustTheirMembers(t *testing.T) {
	check := func(g impl.Graph) {
		var want []string
		for _, name := range classNames() {
			isMember := isMemberIn(g, name)
			if impl.IsIn(g, name) != isMember {
				t.Errorf("IsIn(%v, %q) is %t", g, name, !isMember)
			}
			if isMember {
				want = append(want, name)
			}
		}
		if got := impl.ClassesOf(g); !slices.Equal(got, want) {
			t.Errorf("ClassesOf(%v) = %q, want %q", g, got, want)
		}
	}
	eachGraph(check)
	for _, g := range classGraphs() {
		check(g)
	}
}

func TestObstacleFor(t *testing.T) {
	finders := []func(impl.Graph) ([]int, bool){
		impl.FindHole, impl.IntervalObstacle, impl.ProperObstacle, impl.FindPathOfFour, impl.SplitObstacle, impl.ThresholdObstacle, impl.FindOddCycle, impl.StrongObstacle, impl.PerfectObstacle,
	}
	check := func(g impl.Graph) {
		for i, name := range classNames() {
			want, wantOk := finders[i](g)
			l, ok := impl.ObstacleFor(g, name)
			checkList(t, "ObstacleFor "+name+" of "+formatted(g), l, ok, want, wantOk)
			if ok == isMemberIn(g, name) || ok && !isObstacleIn(g, name, l) || ok != impl.IsObstacleFor(g, name, l) {
				t.Errorf("ObstacleFor(%v, %q) = %v, %t", g, name, l, ok)
			}
		}
	}
	eachPartGraph(check)
	for _, g := range classGraphs() {
		check(g)
	}
}

func TestIsObstacleFor(t *testing.T) {
	check := func(g impl.Graph, l []int) {
		for _, name := range classNames() {
			if want := isObstacleIn(g, name, l); impl.IsObstacleFor(g, name, l) != want {
				t.Errorf("IsObstacleFor(%v, %q, %v) is %t", g, name, l, !want)
			}
		}
	}
	for n := 1; n <= 4; n++ {
		eachGraphOf(n, func(g impl.Graph) {
			for length := range n + 1 {
				eachList(n, length, func(l []int) bool { check(g, l); return true })
			}
		})
	}
	for _, g := range classGraphs() {
		for length := 3; length <= g.Size; length++ {
			count := 0
			eachList(g.Size, length, func(l []int) bool {
				if count++; count%(1+7*(length-3)) == 0 {
					check(g, l)
				}
				return true
			})
		}
		check(g, members(1<<g.Size-1))
	}
	check(sunAt(6, []int{3, 0, 5, 1, 4, 2}), []int{3, 0, 5, 1, 4, 2})
	check(named(t, "cycle", 7), []int{6, 5, 4, 3, 2, 1, 0})
	check(named(t, "cycle", 6), []int{1, 2, 3, 4, 5, 0})
	check(named(t, "cycle", 5), []int{1, 2, 3, 4, 0})
	for _, name := range classNames() {
		for _, l := range [][]int{nil, {0}, {0, 1, 2, 2}, {0, 1, 2, 7}, {0, 1, 2, -1}, {0, 1, 2, 64}, make([]int, 1000)} {
			if impl.IsObstacleFor(named(t, "cycle", 7), name, l) {
				t.Errorf("IsObstacleFor %q accepts %v", name, l)
			}
		}
	}
}

func TestSmallestOutside(t *testing.T) {
	for _, name := range classNames() {
		for n := 1; n <= 5; n++ {
			var want impl.Graph
			wantOk := false
			eachGraphOf(n, func(g impl.Graph) {
				if !wantOk && !isMemberIn(g, name) {
					want, wantOk = g, true
				}
			})
			g, ok := impl.SmallestOutside(name, n)
			checkGraph(t, "SmallestOutside "+name, g, ok, want, wantOk)
		}
		for _, n := range append(strangeNumbers(), 0, 6, 7, 8) {
			g, ok := impl.SmallestOutside(name, n)
			checkNoGraph(t, "SmallestOutside "+name, g, ok)
		}
	}
}

func TestClassesAreClosedUnderTakingVerticesAway(t *testing.T) {
	check := func(g impl.Graph) {
		for _, name := range classNames() {
			want := isMemberIn(g, name)
			if impl.IsHereditaryOn(g, name) != want || impl.IsIn(g, name) != want {
				t.Errorf("IsHereditaryOn(%v, %q) is %t", g, name, impl.IsHereditaryOn(g, name))
			}
			if !want {
				continue
			}
			for set := 1; set < 1<<g.Size; set++ {
				if !impl.IsIn(partOf(g, set), name) {
					t.Errorf("%v is in %q, but its part %b is not", g, name, set)
				}
			}
		}
	}
	eachPartGraph(check)
	for _, g := range classGraphs() {
		check(g)
	}
}

func TestNamesThatAreNone(t *testing.T) {
	for _, name := range noClassNames() {
		for n := -1; n <= 7; n++ {
			g, ok := impl.SmallestOutside(name, n)
			checkNoGraph(t, "SmallestOutside", g, ok)
		}
		for _, g := range append(classGraphs(), graphFrom(t, "1:"), graphFrom(t, "2: 01")) {
			l, ok := impl.ObstacleFor(g, name)
			checkNoList(t, "ObstacleFor", l, ok)
			if impl.IsIn(g, name) || impl.IsHereditaryOn(g, name) || impl.IsObstacleFor(g, name, nil) || impl.IsObstacleFor(g, name, []int{0, 1, 2, 3}) || impl.IsObstacleFor(g, name, []int{0, 1, 2, 3, 4}) {
				t.Errorf("%v is accepted for %q", g, name)
			}
		}
	}
}

func TestClassFunctionsRefuseInvalidGraphs(t *testing.T) {
	for _, g := range invalidGraphs() {
		if names := impl.ClassesOf(g); len(names) != 0 {
			t.Errorf("ClassesOf(%v) = %q", g, names)
		}
		for _, name := range append(classNames(), noClassNames()...) {
			l, ok := impl.ObstacleFor(g, name)
			checkNoList(t, "ObstacleFor", l, ok)
			if impl.IsIn(g, name) || impl.IsHereditaryOn(g, name) || impl.IsObstacleFor(g, name, nil) || impl.IsObstacleFor(g, name, []int{0, 1, 2}) || impl.IsObstacleFor(g, name, []int{0, 1, 2, 3, 4}) {
				t.Errorf("%v is accepted for %q", g, name)
			}
		}
	}
}

func TestClassFunctionsLeaveArgumentsAlone(t *testing.T) {
	for _, plain := range append(invalidGraphs(), graphOf(4, 0b101101), graphOf(5, 3), graphOf(7, 12345)) {
		g, checkRows := guardedGraph(plain)
		l, checkNumbers := guarded([]int{3, 1, 2, 0})
		impl.ClassesOf(g)
		for _, name := range classNames() {
			impl.IsHereditaryOn(g, name)
			impl.IsObstacleFor(g, name, l)
			obstacle, _ := impl.ObstacleFor(g, name)
			checkApart(t, "results", g.Rows, l, obstacle)
		}
		checkRows(t, "a function of chapter 29")
		checkNumbers(t, "a function of chapter 29")
	}
}

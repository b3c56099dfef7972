package tests

import (
	"math"
	"slices"
	"testing"

	"loop.example/g02081/impl"
)

func areDifferentIn(g impl.Graph, l []int) bool {
	for i, v := range l {
		if v < 0 || v >= g.Size || slices.Contains(l[:i], v) {
			return false
		}
	}
	return true
}

// haveJust reports whether l has different vertices that are neighbors exactly at the given pairs of indices, the lesser one first.
func haveJust(g impl.Graph, l []int, pairs ...[2]int) bool {
	if !areDifferentIn(g, l) {
		return false
	}
	for j := range l {
		for i := range j {
			if joined(g, l[i], l[j]) != slices.Contains(pairs, [2]int{i, j}) {
				return false
			}
		}
	}
	return true
}

func steps(n int) [][2]int {
	var pairs [][2]int
	for i := 1; i < n; i++ {
		pairs = append(pairs, [2]int{i - 1, i})
	}
	return pairs
}

func isPathIn(g impl.Graph, l []int) bool {
	return len(l) >= 1 && haveJust(g, l, steps(len(l))...)
}

func isHoleIn(g impl.Graph, l []int) bool {
	return len(l) >= 4 && haveJust(g, l, append(steps(len(l)), [2]int{0, len(l) - 1})...)
}

func isClawIn(g impl.Graph, l []int) bool {
	return len(l) == 4 && haveJust(g, l, [2]int{0, 1}, [2]int{0, 2}, [2]int{0, 3})
}

func isTwoEdgesIn(g impl.Graph, l []int) bool {
	return len(l) == 4 && haveJust(g, l, [2]int{0, 1}, [2]int{2, 3})
}

// firstList is the lexicographically first list of n different vertices that passes a test.
func firstList(g impl.Graph, n int, passes func(impl.Graph, []int) bool) ([]int, bool) {
	var first []int
	eachList(g.Size, n, func(l []int) bool {
		if passes(g, l) {
			first = l
		}
		return first == nil
	})
	return first, first != nil
}

func checkList(t *testing.T, what string, got []int, ok bool, want []int, wantOk bool) {
	t.Helper()
	if ok != wantOk || !slices.Equal(got, want) {
		t.Errorf("%s = %v, %t, want %v, %t", what, got, ok, want, wantOk)
	}
}

func checkNoList(t *testing.T, what string, got []int, ok bool) {
	t.Helper()
	checkList(t, what, got, ok, nil, false)
}

// eachPartGraph visits all graphs of at most 4 vertices, and some of 5 to 7, for tests that go through many lists.
func eachPartGraph(visit func(impl.Graph)) {
	for n := 1; n <= 4; n++ {
		eachGraphOf(n, visit)
	}
	for bits := 0; bits < 1<<10; bits += 7 {
		visit(graphOf(5, bits))
	}
	for bits := 5; bits < 1<<15; bits += 1117 {
		visit(graphOf(6, bits))
	}
	for bits := 99; bits < 1<<21; bits += 170003 {
		visit(graphOf(7, bits))
	}
}

func TestPartsAreToldByTheirNeighbors(t *testing.T) {
	eachPartGraph(func(g impl.Graph) {
		for n := range g.Size + 1 {
			eachList(g.Size, n, func(l []int) bool {
				if impl.IsInducedPath(g, l) != isPathIn(g, l) {
					t.Errorf("IsInducedPath(%v, %v) is %t", g, l, impl.IsInducedPath(g, l))
				}
				if impl.IsHole(g, l) != isHoleIn(g, l) {
					t.Errorf("IsHole(%v, %v) is %t", g, l, impl.IsHole(g, l))
				}
				if impl.IsClaw(g, l) != isClawIn(g, l) {
					t.Errorf("IsClaw(%v, %v) is %t", g, l, impl.IsClaw(g, l))
				}
				if impl.IsTwoEdges(g, l) != isTwoEdgesIn(g, l) {
					t.Errorf("IsTwoEdges(%v, %v) is %t", g, l, impl.IsTwoEdges(g, l))
				}
				return true
			})
		}
	})
}

func checkNoPart(t *testing.T, g impl.Graph, l []int) {
	t.Helper()
	if impl.IsInducedPath(g, l) || impl.IsHole(g, l) || impl.IsClaw(g, l) || impl.IsTwoEdges(g, l) {
		t.Errorf("%v is a part of %v", l, g)
	}
}

func TestPartsHaveDifferentVerticesOfTheGraph(t *testing.T) {
	g := graphFrom(t, "5: 01 03 12 23")
	for _, l := range [][]int{nil, {}, {0, 0}, {0, 1, 0}, {0, 1, 2, 3, 0}, {0, 1, 2, 3, 0, 1, 2, 3}, {5}, {0, 1, 5}, {-1}, {1, 2, 7}, {1, 64}, {2, 2, 2, 2}, make([]int, 1000)} {
		checkNoPart(t, g, l)
	}
	for _, v := range strangeNumbers() {
		checkNoPart(t, g, []int{v})
		checkNoPart(t, g, []int{0, v})
		checkNoPart(t, g, []int{0, 1, 2, v})
		checkNoPart(t, g, []int{v, 1, 2, 3})
	}
	if !impl.IsHole(g, []int{0, 1, 2, 3}) || !impl.IsHole(g, []int{2, 1, 0, 3}) {
		t.Error("the hole of four vertices is not seen")
	}
	for _, g := range invalidGraphs() {
		checkNoPart(t, g, nil)
		checkNoPart(t, g, []int{0})
		checkNoPart(t, g, []int{0, 1})
		checkNoPart(t, g, []int{0, 1, 2, 3})
	}
}

func TestPathOfOneVertex(t *testing.T) {
	for n := 1; n <= 7; n++ {
		g := named(t, "complete", n)
		for v := range n {
			if !impl.IsInducedPath(g, []int{v}) {
				t.Errorf("vertex %d is no path of %d vertices", v, n)
			}
		}
		l, ok := impl.FindInducedPath(g, 1)
		checkList(t, "FindInducedPath of 1", l, ok, []int{0}, true)
		if impl.IsInducedPath(g, []int{n}) || impl.IsInducedPath(g, nil) {
			t.Error("a path without vertices of the graph")
		}
	}
}

func TestFindInducedPath(t *testing.T) {
	eachPartGraph(func(g impl.Graph) {
		for n := 1; n <= g.Size; n++ {
			want, wantOk := firstList(g, n, isPathIn)
			got, ok := impl.FindInducedPath(g, n)
			checkList(t, "FindInducedPath of "+formatted(g), got, ok, want, wantOk)
		}
		for _, n := range append(strangeNumbers(), 0, g.Size+1, 8) {
			got, ok := impl.FindInducedPath(g, n)
			checkNoList(t, "FindInducedPath", got, ok)
		}
	})
}

func TestFindHoleTwoEdgesAndClaw(t *testing.T) {
	eachPartGraph(func(g impl.Graph) {
		var hole []int
		ok := false
		for n := 4; n <= g.Size && !ok; n++ {
			hole, ok = firstList(g, n, isHoleIn)
		}
		got, gotOk := impl.FindHole(g)
		checkList(t, "FindHole of "+formatted(g), got, gotOk, hole, ok)
		want, ok := firstList(g, 4, isTwoEdgesIn)
		got, gotOk = impl.FindTwoEdges(g)
		checkList(t, "FindTwoEdges of "+formatted(g), got, gotOk, want, ok)
		want, ok = firstList(g, 4, isClawIn)
		got, gotOk = impl.FindClaw(g)
		checkList(t, "FindClaw of "+formatted(g), got, gotOk, want, ok)
	})
}

func TestFindHoleTakesAShortestOne(t *testing.T) {
	cases := map[string][]int{
		"5: 01 12 23 34 04":                {0, 1, 2, 3, 4},
		"5: 01 04 12 23 24 34":             {0, 1, 2, 4},
		"7: 01 12 23 34 04 45 56 36":       {3, 4, 5, 6},
		"7: 01 12 23 34 45 56 06":          {0, 1, 2, 3, 4, 5, 6},
		"7: 05 35 34 14 12 06 26":          {0, 5, 3, 4, 1, 2, 6},
		"6: 03 04 05 13 14 15 23 24 25":    {0, 3, 1, 4},
		"7: 12 23 34 45 56 16":             {1, 2, 3, 4, 5, 6},
		"7: 01 02 03 04 05 06 12 23 34 45": nil,
		"7: 01 02 34 45 56 36":             {3, 4, 5, 6},
		"4: 01 12 23 03":                   {0, 1, 2, 3},
		"4: 02 12 13 03":                   {0, 2, 1, 3},
		"3: 01 12 02":                      nil,
	}
	for text, want := range cases {
		g := impl.Graph{Size: int(text[0] - '0'), Rows: make([]int, text[0]-'0')}
		for i := 3; i < len(text); i += 3 {
			v, w := int(text[i]-'0'), int(text[i+1]-'0')
			g.Rows[v] |= 1 << w
			g.Rows[w] |= 1 << v
		}
		got, ok := impl.FindHole(g)
		checkList(t, "FindHole of "+text, got, ok, want, want != nil)
	}
}

func TestNothingIsFoundInInvalidGraphs(t *testing.T) {
	for _, g := range invalidGraphs() {
		for n := range 9 {
			l, ok := impl.FindInducedPath(g, n)
			checkNoList(t, "FindInducedPath", l, ok)
		}
		l, ok := impl.FindHole(g)
		checkNoList(t, "FindHole", l, ok)
		l, ok = impl.FindTwoEdges(g)
		checkNoList(t, "FindTwoEdges", l, ok)
		l, ok = impl.FindClaw(g)
		checkNoList(t, "FindClaw", l, ok)
	}
}

func TestWhatIsFoundIsAPart(t *testing.T) {
	eachGraph(func(g impl.Graph) {
		if l, ok := impl.FindHole(g); ok && !impl.IsHole(g, l) {
			t.Errorf("FindHole(%v) = %v", g, l)
		}
		if l, ok := impl.FindClaw(g); ok && !impl.IsClaw(g, l) {
			t.Errorf("FindClaw(%v) = %v", g, l)
		}
		if l, ok := impl.FindTwoEdges(g); ok && !impl.IsTwoEdges(g, l) {
			t.Errorf("FindTwoEdges(%v) = %v", g, l)
		}
		for n := 1; n <= g.Size; n++ {
			if l, ok := impl.FindInducedPath(g, n); ok && (len(l) != n || !impl.IsInducedPath(g, l)) {
				t.Errorf("FindInducedPath(%v, %d) = %v", g, n, l)
			}
		}
	})
}

func TestCanonicalCycle(t *testing.T) {
	cases := [][2][]int{
		{nil, nil},
		{{5}, {5}},
		{{2, 1}, {2, 1}},
		{{1, 0, 2}, {0, 1, 2}},
		{{3, 1, 2, 0}, {0, 2, 1, 3}},
		{{3, 2, 1}, {1, 2, 3}},
		{{0, 2, 1}, {0, 1, 2}},
		{{0, 1, 2}, {0, 1, 2}},
		{{4, 0, 3, 1, 2}, {0, 3, 1, 2, 4}},
		{{2, 4, 0, 3, 1}, {0, 3, 1, 2, 4}},
		{{5, 1, 5, 9, 7}, {1, 5, 9, 7, 5}},
		{{5, 9, 7, 5, 1}, {1, 5, 9, 7, 5}},
		{{1, 3, 1, 2}, {1, 2, 1, 3}},
		{{3, 1, 2, 1}, {1, 2, 1, 3}},
		{{1, 1, 2}, {1, 1, 2}},
		{{2, 1, 1, 3}, {1, 1, 3, 2}},
		{{3, 1, 1, 2}, {1, 1, 2, 3}},
		{{7, 7, 7, 7}, {7, 7, 7, 7}},
		{{0, -3, 5, math.MinInt, math.MaxInt}, {math.MinInt, 5, -3, 0, math.MaxInt}},
	}
	for _, c := range cases {
		if got := impl.CanonicalCycle(c[0]); !slices.Equal(got, c[1]) {
			t.Errorf("CanonicalCycle(%v) = %v, want %v", c[0], got, c[1])
		}
	}
}

func TestCanonicalCycleOfAllTurnsIsTheSame(t *testing.T) {
	for n := 3; n <= 20; n++ {
		circle := make([]int, n)
		for i := range circle {
			circle[i] = (i*7 + 3) % 23
		}
		want := impl.CanonicalCycle(circle)
		if want[0] != slices.Min(circle) || want[1] > want[n-1] {
			t.Errorf("CanonicalCycle(%v) = %v", circle, want)
		}
		for turn := range n {
			turned := append(slices.Clone(circle[turn:]), circle[:turn]...)
			if got := impl.CanonicalCycle(turned); !slices.Equal(got, want) {
				t.Errorf("CanonicalCycle(%v) = %v, want %v", turned, got, want)
			}
			slices.Reverse(turned)
			if got := impl.CanonicalCycle(turned); !slices.Equal(got, want) {
				t.Errorf("CanonicalCycle(%v) = %v, want %v", turned, got, want)
			}
		}
	}
}

func TestCanonicalCycleLeavesLongListsAsTheyAre(t *testing.T) {
	for _, n := range []int{20, 21, 22, 1000} {
		l := make([]int, n)
		for i := range l {
			l[i] = n - i
		}
		got := impl.CanonicalCycle(l)
		if n > 20 && !slices.Equal(got, l) || n == 20 && got[0] != 1 {
			t.Errorf("CanonicalCycle of %d numbers = %v", n, got)
		}
	}
}

func TestPartFunctionsLeaveArgumentsAlone(t *testing.T) {
	g, checkRows := guardedGraph(graphOf(5, 0b1011011001))
	l, checkNumbers := guarded([]int{3, 1, 2, 0})
	impl.IsInducedPath(g, l)
	impl.IsHole(g, l)
	impl.IsClaw(g, l)
	impl.IsTwoEdges(g, l)
	a, _ := impl.FindInducedPath(g, 3)
	b, _ := impl.FindHole(g)
	c, _ := impl.FindTwoEdges(g)
	d, _ := impl.FindClaw(g)
	checkApart(t, "what is found", g.Rows, a, b, c, d, l, impl.CanonicalCycle(l), impl.CanonicalCycle(l[:2]), impl.CanonicalCycle(l[:3]))
	long, checkLong := guarded(make([]int, 30))
	checkApart(t, "CanonicalCycle", long, impl.CanonicalCycle(long))
	checkRows(t, "a function of chapter 4")
	checkNumbers(t, "a function of chapter 4")
	checkLong(t, "CanonicalCycle")
}

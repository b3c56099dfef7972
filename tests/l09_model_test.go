package tests

import (
	"math"
	"slices"
	"testing"

	"loop.example/g02081/impl"
)

// modelFrom takes the left and the right end of each interval in turn.
func modelFrom(ends ...int) impl.Intervals {
	var m impl.Intervals
	for i := 0; i < len(ends); i += 2 {
		m.Left = append(m.Left, ends[i])
		m.Right = append(m.Right, ends[i+1])
	}
	return m
}

func sameModel(a, b impl.Intervals) bool {
	return slices.Equal(a.Left, b.Left) && slices.Equal(a.Right, b.Right)
}

func checkModel(t *testing.T, what string, got impl.Intervals, ok bool, want impl.Intervals, wantOk bool) {
	t.Helper()
	if ok != wantOk || !sameModel(got, want) {
		t.Errorf("%s = %v, %t, want %v, %t", what, got, ok, want, wantOk)
	}
}

func checkNoModel(t *testing.T, what string, got impl.Intervals, ok bool) {
	t.Helper()
	checkModel(t, what, got, ok, impl.Intervals{}, false)
}

// invalidModels breaks each rule of IsModel by itself.
func invalidModels() []impl.Intervals {
	models := []impl.Intervals{
		{},
		{Left: []int{1}},
		{Right: []int{1}},
		{Left: []int{1, 2}, Right: []int{1}},
		{Left: []int{1}, Right: []int{1, 2}},
		{Left: make([]int, 8), Right: make([]int, 8)},
		{Left: make([]int, 7), Right: make([]int, 8)},
		{Left: make([]int, 8), Right: make([]int, 7)},
		modelFrom(1, 0),
		modelFrom(99, 98),
		modelFrom(0, 5, 3, 2),
		modelFrom(-1, 0),
		modelFrom(-1, -1),
		modelFrom(0, 100),
		modelFrom(100, 100),
		modelFrom(0, 0, 0, 100),
		modelFrom(math.MinInt, math.MaxInt),
		modelFrom(math.MinInt, 0),
		modelFrom(0, math.MaxInt),
		modelFrom(math.MaxInt, math.MinInt),
	}
	return models
}

// eachModel visits all models of up to 3 intervals with ends below 4, and a fixed choice of others.
func eachModel(visit func(impl.Intervals)) {
	var extend func(ends []int)
	extend = func(ends []int) {
		if len(ends) > 0 {
			visit(modelFrom(ends...))
		}
		if len(ends) == 6 {
			return
		}
		for left := range 4 {
			for right := left; right < 4; right++ {
				extend(append(slices.Clone(ends), left, right))
			}
		}
	}
	extend(nil)
	state := uint32(9)
	next := func(n int) int {
		state = state*1664525 + 1013904223
		return int(state>>8) % n
	}
	for i := range 400 {
		var ends []int
		for range 1 + i%7 {
			left := next(100)
			ends = append(ends, left, min(99, left+next(10*(1+i%5))))
		}
		visit(modelFrom(ends...))
	}
}

// has reports whether an interval contains a number, which the tests find by counting on from its left end.
func has(m impl.Intervals, v, x int) bool {
	for n := m.Left[v]; n <= m.Right[v]; n++ {
		if n == x {
			return true
		}
	}
	return false
}

func coveredIn(m impl.Intervals, x int) int {
	covered := 0
	for v := range m.Left {
		if has(m, v, x) {
			covered |= 1 << v
		}
	}
	return covered
}

func graphOfModel(m impl.Intervals) impl.Graph {
	g := impl.Graph{Size: len(m.Left), Rows: make([]int, len(m.Left))}
	for x := range 100 {
		covered := coveredIn(m, x)
		for _, v := range members(covered) {
			g.Rows[v] |= covered &^ (1 << v)
		}
	}
	return g
}

func isProperIn(m impl.Intervals) bool {
	for v := range m.Left {
		for w := range m.Left {
			within := true
			for x := m.Left[v]; x <= m.Right[v]; x++ {
				within = within && has(m, w, x)
			}
			if v != w && within {
				return false
			}
		}
	}
	return true
}

// stabbed takes right ends in ascending order if their interval has none of those taken before.
func stabbed(m impl.Intervals) []int {
	var points []int
	for x := range 100 {
		for v := range m.Left {
			stab := m.Right[v] == x
			for _, point := range points {
				stab = stab && !has(m, v, point)
			}
			if stab {
				points = append(points, x)
			}
		}
	}
	return points
}

// avoids reports whether there is a way from a to b when c and its neighbors are taken away.
func avoids(g impl.Graph, a, b, c int) bool {
	free := (1<<g.Size - 1) &^ (g.Rows[c] | 1<<c)
	return free>>a&1 == 1 && free>>b&1 == 1 && reachable(g, free)[a][b]
}

func isTripleIn(g impl.Graph, a, b, c int) bool {
	return a != b && b != c && a != c && avoids(g, a, b, c) && avoids(g, b, c, a) && avoids(g, a, c, b)
}

// tripleIn is the first ascending triple, or nil.
func tripleIn(g impl.Graph) []int {
	for a := range g.Size {
		for b := a + 1; b < g.Size; b++ {
			for c := b + 1; c < g.Size; c++ {
				if isTripleIn(g, a, b, c) {
					return []int{a, b, c}
				}
			}
		}
	}
	return nil
}

func TestIsModel(t *testing.T) {
	for _, m := range []impl.Intervals{
		modelFrom(0, 0), modelFrom(99, 99), modelFrom(0, 99), modelFrom(5, 5, 5, 5),
		modelFrom(0, 1, 2, 3, 4, 5, 6, 7, 8, 9, 10, 11, 12, 13),
		modelFrom(99, 99, 0, 99, 0, 0, 98, 99, 0, 1, 50, 50, 99, 99),
	} {
		if !impl.IsModel(m) {
			t.Errorf("IsModel(%v) is false", m)
		}
	}
	eachModel(func(m impl.Intervals) {
		if !impl.IsModel(m) {
			t.Errorf("IsModel(%v) is false", m)
		}
	})
	for _, m := range invalidModels() {
		if impl.IsModel(m) {
			t.Errorf("IsModel(%v) is true", m)
		}
	}
}

func TestGraphOfIntervals(t *testing.T) {
	eachModel(func(m impl.Intervals) {
		g, ok := impl.GraphOfIntervals(m)
		checkGraph(t, "GraphOfIntervals", g, ok, graphOfModel(m), true)
	})
	g, ok := impl.GraphOfIntervals(modelFrom(0, 3, 3, 4, 5, 5, 4, 5, 0, 9, 6, 99, 99, 99))
	checkGraph(t, "GraphOfIntervals", g, ok, graphFrom(t, "7: 01 04 13 14 23 24 34 45 56"), true)
}

func TestGraphOfIntervalsHasNeitherHoleNorTriple(t *testing.T) {
	eachModel(func(m impl.Intervals) {
		g, _ := impl.GraphOfIntervals(m)
		if hasHole(g) || len(tripleIn(g)) > 0 {
			t.Errorf("%v is a model of %v", m, g)
		}
	})
}

func TestIsUnitModelAndIsProperModel(t *testing.T) {
	eachModel(func(m impl.Intervals) {
		for length := -2; length <= 50; length++ {
			want := true
			for v := range m.Left {
				want = want && m.Left[v]+length == m.Right[v]
			}
			if impl.IsUnitModel(m, length) != want {
				t.Errorf("IsUnitModel(%v, %d) is %t", m, length, !want)
			}
			if want && len(m.Left) == 1 && !impl.IsProperModel(m) {
				t.Errorf("IsProperModel(%v) is false", m)
			}
		}
		if want := isProperIn(m); impl.IsProperModel(m) != want {
			t.Errorf("IsProperModel(%v) is %t", m, !want)
		}
	})
	m := modelFrom(1, 4, 0, 3)
	for _, length := range strangeNumbers() {
		if impl.IsUnitModel(m, length) {
			t.Errorf("IsUnitModel accepts the length %d", length)
		}
	}
	if !impl.IsUnitModel(modelFrom(0, 99, 0, 99), 99) || !impl.IsUnitModel(modelFrom(7, 7), 0) {
		t.Error("IsUnitModel refuses the longest or the shortest intervals")
	}
}

func TestPointsCoveredAndDeepestPoint(t *testing.T) {
	eachModel(func(m impl.Intervals) {
		deepest, most := 0, 0
		for x := -2; x < 103; x++ {
			want := coveredIn(m, x)
			if got := impl.PointsCovered(m, x); got != want {
				t.Errorf("PointsCovered(%v, %d) = %d, want %d", m, x, got, want)
			}
			if n := len(members(want)); n > most {
				deepest, most = x, n
			}
		}
		if x, n := impl.DeepestPoint(m); x != deepest || n != most {
			t.Errorf("DeepestPoint(%v) = %d, %d, want %d, %d", m, x, n, deepest, most)
		}
		for _, x := range strangeNumbers() {
			if impl.PointsCovered(m, x) != 0 {
				t.Errorf("PointsCovered(%v, %d) = %d", m, x, impl.PointsCovered(m, x))
			}
		}
	})
	if x, n := impl.DeepestPoint(modelFrom(99, 99)); x != 99 || n != 1 {
		t.Errorf("DeepestPoint = %d, %d", x, n)
	}
}

func TestStabbingPoints(t *testing.T) {
	eachModel(func(m impl.Intervals) {
		points, ok := impl.StabbingPoints(m)
		checkList(t, "StabbingPoints", points, ok, stabbed(m), true)
		g := graphOfModel(m)
		apart := bestSet(g, func(set int) bool { return edgesWithin(g, set) == 0 })
		if len(points) != len(members(apart)) {
			t.Errorf("StabbingPoints(%v) = %v, but the intervals of %d lie apart", m, points, apart)
		}
	})
}

func TestFormatIntervals(t *testing.T) {
	cases := map[string]impl.Intervals{
		"0-0":                                modelFrom(0, 0),
		"0-99":                               modelFrom(0, 99),
		"10-20 5-5 10-20":                    modelFrom(10, 20, 5, 5, 10, 20),
		"6-7 5-6 4-5 3-4 2-3 1-2 0-1":        modelFrom(6, 7, 5, 6, 4, 5, 3, 4, 2, 3, 1, 2, 0, 1),
		"99-99 9-10 0-9 0-0 1-1 11-19 90-99": modelFrom(99, 99, 9, 10, 0, 9, 0, 0, 1, 1, 11, 19, 90, 99),
	}
	for want, m := range cases {
		if got := impl.FormatIntervals(m); got != want {
			t.Errorf("FormatIntervals(%v) = %q, want %q", m, got, want)
		}
	}
}

func TestTwoEqualIntervals(t *testing.T) {
	for _, m := range []impl.Intervals{modelFrom(2, 5, 2, 5), modelFrom(0, 3, 0, 3), modelFrom(96, 99, 96, 99)} {
		g, ok := impl.GraphOfIntervals(m)
		checkGraph(t, "GraphOfIntervals", g, ok, graphFrom(t, "2: 01"), true)
		x, n := impl.DeepestPoint(m)
		if impl.IsProperModel(m) || !impl.IsUnitModel(m, 3) || !impl.IsModel(m) || x != m.Left[0] || n != 2 || impl.PointsCovered(m, m.Right[1]) != 3 {
			t.Errorf("%v: deepest point %d in %d intervals", m, x, n)
		}
		points, ok := impl.StabbingPoints(m)
		checkList(t, "StabbingPoints", points, ok, m.Right[:1], true)
	}
	if impl.IsProperModel(modelFrom(0, 3, 9, 9, 1, 4, 9, 9)) || impl.IsProperModel(modelFrom(7, 7, 7, 7)) || !impl.IsProperModel(modelFrom(0, 3, 1, 4, 4, 5)) {
		t.Error("IsProperModel does not tell equal intervals")
	}
}

func TestModelFunctionsRefuseInvalidModels(t *testing.T) {
	for _, m := range invalidModels() {
		g, ok := impl.GraphOfIntervals(m)
		checkNoGraph(t, "GraphOfIntervals", g, ok)
		points, ok := impl.StabbingPoints(m)
		checkNoList(t, "StabbingPoints", points, ok)
		x, n := impl.DeepestPoint(m)
		if x != 0 || n != 0 || impl.IsProperModel(m) || impl.FormatIntervals(m) != "" {
			t.Errorf("%v is accepted", m)
		}
		for _, x := range append(strangeNumbers(), 0, 1, 5, 100) {
			if impl.PointsCovered(m, x) != 0 || impl.IsUnitModel(m, x) {
				t.Errorf("%v is accepted with %d", m, x)
			}
		}
	}
}

func TestModelFunctionsLeaveArgumentsAlone(t *testing.T) {
	for _, plain := range append(invalidModels(), modelFrom(0, 3, 2, 6, 5, 8), modelFrom(5, 8, 0, 9, 1, 1)) {
		left, checkLeft := guarded(plain.Left)
		right, checkRight := guarded(plain.Right)
		m := impl.Intervals{Left: left, Right: right}
		impl.IsModel(m)
		impl.IsUnitModel(m, 3)
		impl.IsProperModel(m)
		impl.PointsCovered(m, 3)
		impl.DeepestPoint(m)
		impl.FormatIntervals(m)
		g, _ := impl.GraphOfIntervals(m)
		points, _ := impl.StabbingPoints(m)
		checkApart(t, "results", left, right, g.Rows, points)
		checkLeft(t, "a function of chapter 9")
		checkRight(t, "a function of chapter 9")
	}
}

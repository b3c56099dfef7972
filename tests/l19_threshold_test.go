package tests

import (
	"math"
	"slices"
	"testing"

	"loop.example/g02081/impl"
)

// thresholdIn takes the greatest vertex that is alike to all others left, each time at the front of the order.
func thresholdIn(g impl.Graph) (order []int, joins []bool, ok bool) {
	left := members(1<<g.Size - 1)
	for len(left) > 0 {
		taken := -1
		for i, v := range left {
			if n := len(members(g.Rows[v] & setFrom(left))); n == 0 || n == len(left)-1 {
				taken = i
			}
		}
		if taken < 0 {
			return nil, nil, false
		}
		v := left[taken]
		joins = slices.Insert(joins, 0, g.Rows[v]&setFrom(left) != 0)
		order = slices.Insert(order, 0, v)
		left = slices.Delete(left, taken, taken+1)
	}
	return order, joins, true
}

func weightsIn(order []int, joins []bool) ([]int, int) {
	weights, limit := make([]int, len(order)), 0
	for i, v := range order {
		if joins[i] {
			weights[v] = limit + 1
			continue
		}
		for _, w := range order[:i] {
			weights[w]++
		}
		limit += 2
	}
	return weights, limit
}

func isThresholdObstacleIn(g impl.Graph, l []int) bool {
	return len(l) == 4 && (isTwoEdgesIn(g, l) || isHoleIn(g, l) || isPathIn(g, l))
}

func checkNoThreshold(t *testing.T, g impl.Graph) {
	t.Helper()
	order, joins, ok := impl.ThresholdOrder(g)
	checkNoList(t, "ThresholdOrder", order, ok)
	weights, limit, okWeights := impl.WeightsOf(g)
	checkNoList(t, "WeightsOf", weights, okWeights)
	if len(joins) != 0 || limit != 0 || impl.IsThreshold(g) {
		t.Errorf("ThresholdOrder(%v) has the joins %v, WeightsOf the limit %d", g, joins, limit)
	}
}

func TestThresholdGraphsArePutTogetherFromTheirOrders(t *testing.T) {
	eachGraph(func(g impl.Graph) {
		wantOrder, wantJoins, wantOk := thresholdIn(g)
		if !wantOk {
			checkNoThreshold(t, g)
			return
		}
		order, joins, ok := impl.ThresholdOrder(g)
		checkList(t, "ThresholdOrder of "+formatted(g), order, ok, wantOrder, true)
		if !slices.Equal(joins, wantJoins) || !impl.IsThreshold(g) {
			t.Errorf("ThresholdOrder(%v) has the joins %v, want %v", g, joins, wantJoins)
		}
		back, ok := impl.GraphOfThreshold(order, joins)
		checkGraph(t, "GraphOfThreshold", back, ok, g, true)
	})
}

func TestWeightsOf(t *testing.T) {
	eachGraph(func(g impl.Graph) {
		order, joins, ok := thresholdIn(g)
		if !ok {
			return
		}
		want, wantLimit := weightsIn(order, joins)
		weights, limit, ok := impl.WeightsOf(g)
		checkList(t, "WeightsOf "+formatted(g), weights, ok, want, true)
		if limit != wantLimit || !impl.AreThresholdWeights(g, weights, limit) {
			t.Errorf("WeightsOf(%v) = %v, %d, want the limit %d", g, weights, limit, wantLimit)
		}
	})
	weights, limit, ok := impl.WeightsOf(named(t, "star", 7))
	checkList(t, "WeightsOf a star", weights, ok, []int{13, 5, 4, 3, 2, 1, 0}, true)
	if limit != 12 {
		t.Errorf("WeightsOf a star has the limit %d", limit)
	}
}

func TestGraphOfThreshold(t *testing.T) {
	for n := 1; n <= 5; n++ {
		eachList(n, n, func(order []int) bool {
			for bits := range 1 << n {
				want, joins := impl.Graph{Size: n, Rows: make([]int, n)}, make([]bool, n)
				for i, v := range order {
					joins[i] = bits>>i&1 == 1
					for _, w := range order[:i] {
						if joins[i] {
							want.Rows[v] |= 1 << w
							want.Rows[w] |= 1 << v
						}
					}
				}
				g, ok := impl.GraphOfThreshold(order, joins)
				checkGraph(t, "GraphOfThreshold", g, ok, want, true)
				if !impl.IsThreshold(g) || bits < 2 && len(edgeList(g)) > 0 {
					t.Errorf("GraphOfThreshold(%v, %v) = %v", order, joins, g)
				}
			}
			return true
		})
	}
	g, ok := impl.GraphOfThreshold([]int{6, 0, 5, 1, 4, 2, 3}, []bool{true, false, true, false, false, true, false})
	checkGraph(t, "GraphOfThreshold", g, ok, graphFrom(t, "7: 02 05 12 24 25 26 56"), true)
}

func TestAreThresholdWeights(t *testing.T) {
	for bits := range 1 << 8 {
		w, limit := []int{bits & 3, bits >> 2 & 3, bits >> 4 & 3}, bits>>6
		eachGraphOf(3, func(g impl.Graph) {
			want := true
			for v := range 3 {
				for u := range v {
					want = want && joined(g, u, v) == (w[u]+w[v] > limit)
				}
			}
			if impl.AreThresholdWeights(g, w, limit) != want {
				t.Errorf("AreThresholdWeights(%v, %v, %d) is %t", g, w, limit, !want)
			}
		})
	}
	edge, apart := graphFrom(t, "2: 01"), graphFrom(t, "2:")
	for _, c := range []struct {
		a, b, limit int
		valid       bool
	}{
		{0, 0, 0, true}, {1000000, 1000000, 1000000, true}, {1000000, 0, 1000000, true}, {1000001, 0, 0, false}, {0, 1000001, 1000000, false}, {0, 0, 1000001, false},
		{-1, 2, 0, false}, {2, -1, 0, false}, {0, 0, -1, false}, {math.MaxInt, 1, 0, false}, {1, math.MaxInt, 0, false}, {math.MinInt, 0, 0, false}, {0, 0, math.MinInt, false}, {0, 0, math.MaxInt, false},
	} {
		w := []int{c.a, c.b}
		if impl.AreThresholdWeights(edge, w, c.limit) != (c.valid && c.a+c.b > c.limit) || impl.AreThresholdWeights(apart, w, c.limit) != (c.valid && c.a+c.b <= c.limit) {
			t.Errorf("AreThresholdWeights of %v, %d is wrong", w, c.limit)
		}
	}
	one := graphFrom(t, "1:")
	for _, n := range []int{-1, 1000001} {
		if impl.AreThresholdWeights(one, []int{n}, 0) || impl.AreThresholdWeights(one, []int{0}, n) {
			t.Errorf("AreThresholdWeights accepts %d for one vertex", n)
		}
	}
	for _, w := range [][]int{nil, {1}, {1, 1, 1}} {
		if impl.AreThresholdWeights(edge, w, 0) || impl.AreThresholdWeights(apart, w, 5) {
			t.Errorf("AreThresholdWeights accepts %v", w)
		}
	}
}

func TestThresholdObstacle(t *testing.T) {
	eachGraph(func(g impl.Graph) {
		want, wantOk := firstList(g, 4, isThresholdObstacleIn)
		got, ok := impl.ThresholdObstacle(g)
		checkList(t, "ThresholdObstacle of "+formatted(g), got, ok, want, wantOk)
		if ok == impl.IsThreshold(g) || ok != impl.IsThresholdObstacle(g, got) {
			t.Errorf("%v has the obstacle %v", g, got)
		}
	})
	for text, want := range map[string][]int{"6: 01 12 23 45": {0, 1, 2, 3}, "6: 03 12 24 35 45": {0, 3, 1, 2}, "6: 02 03 12 13 45": {0, 2, 1, 3}, "4: 03 12": {0, 3, 1, 2}} {
		l, ok := impl.ThresholdObstacle(graphFrom(t, text))
		checkList(t, "ThresholdObstacle of "+text, l, ok, want, true)
	}
}

func TestIsThresholdObstacle(t *testing.T) {
	check := func(g impl.Graph) {
		for n := range g.Size + 1 {
			eachList(g.Size, n, func(l []int) bool {
				if want := isThresholdObstacleIn(g, l); impl.IsThresholdObstacle(g, l) != want {
					t.Errorf("IsThresholdObstacle(%v, %v) is %t", g, l, !want)
				}
				return true
			})
		}
	}
	for n := 1; n <= 4; n++ {
		eachGraphOf(n, check)
	}
	for _, text := range []string{"5: 01 04 12 23 34", "5: 01 12 23 34", "3: 01", "6: 01 23 45"} {
		check(graphFrom(t, text))
	}
	for _, l := range [][]int{{0, 1, 2, 2}, {0, 1, 2, 4}, {0, 1, 2, -1}, {0, 1, 2, 64}, {0, 1, 2, 3, 0}} {
		if impl.IsThresholdObstacle(graphFrom(t, "4: 01 12 23"), l) {
			t.Errorf("IsThresholdObstacle accepts %v", l)
		}
	}
}

func TestVertexThatIsJoinedWithNone(t *testing.T) {
	g := graphFrom(t, "4: 01 03 13")
	order, joins, ok := impl.ThresholdOrder(g)
	checkList(t, "ThresholdOrder", order, ok, []int{0, 1, 3, 2}, true)
	if !slices.Equal(joins, []bool{false, true, true, false}) {
		t.Errorf("ThresholdOrder has the joins %v", joins)
	}
	weights, limit, ok := impl.WeightsOf(g)
	checkList(t, "WeightsOf", weights, ok, []int{1, 4, 0, 4}, true)
	if limit != 4 || !impl.AreThresholdWeights(g, weights, limit) {
		t.Errorf("WeightsOf has the limit %d", limit)
	}
	for n := 1; n <= 7; n++ {
		g := named(t, "empty", n)
		order, joins, ok := impl.ThresholdOrder(g)
		checkList(t, "ThresholdOrder", order, ok, members(1<<n-1), true)
		weights, limit, okWeights := impl.WeightsOf(g)
		if !slices.Equal(joins, make([]bool, n)) || limit != 2*n || !okWeights || !impl.AreThresholdWeights(g, weights, limit) {
			t.Errorf("%d vertices without edges: joins %v, weights %v, limit %d", n, joins, weights, limit)
		}
	}
}

func TestThresholdFunctionsRefuseInvalidArguments(t *testing.T) {
	for _, order := range noPermutations() {
		g, ok := impl.GraphOfThreshold(order, make([]bool, len(order)))
		checkNoGraph(t, "GraphOfThreshold", g, ok)
	}
	for n := 1; n <= 7; n++ {
		for _, joins := range [][]bool{nil, make([]bool, n-1), make([]bool, n+1)} {
			g, ok := impl.GraphOfThreshold(members(1<<n-1), joins)
			checkNoGraph(t, "GraphOfThreshold", g, ok)
		}
	}
	for _, g := range invalidGraphs() {
		checkNoThreshold(t, g)
		l, ok := impl.ThresholdObstacle(g)
		checkNoList(t, "ThresholdObstacle", l, ok)
		for n := range 9 {
			if impl.AreThresholdWeights(g, make([]int, n), 0) || impl.IsThresholdObstacle(g, members(1<<n-1)) {
				t.Errorf("%v is accepted", g)
			}
		}
	}
}

func TestThresholdFunctionsLeaveArgumentsAlone(t *testing.T) {
	for _, plain := range append(invalidGraphs(), graphFrom(t, "4: 01 02 03 12"), graphOf(4, 0b101101), graphOf(7, 0)) {
		g, checkRows := guardedGraph(plain)
		l, checkNumbers := guarded([]int{3, 1, 2, 0})
		whole := []bool{true, false, true, true, true, false}
		joins := whole[:4]
		impl.IsThreshold(g)
		impl.AreThresholdWeights(g, l, 2)
		impl.IsThresholdObstacle(g, l)
		order, _, _ := impl.ThresholdOrder(g)
		weights, _, _ := impl.WeightsOf(g)
		obstacle, _ := impl.ThresholdObstacle(g)
		made, _ := impl.GraphOfThreshold(l, joins)
		checkApart(t, "results", g.Rows, l, order, weights, obstacle, made.Rows)
		checkRows(t, "a function of chapter 19")
		checkNumbers(t, "a function of chapter 19")
		if !slices.Equal(whole, []bool{true, false, true, true, true, false}) {
			t.Errorf("GraphOfThreshold changes its argument to %v", whole)
		}
	}
}

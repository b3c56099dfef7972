package tests

import (
	"slices"
	"testing"

	"loop.example/g02081/impl"
)

func leads(to []int, v, w int) bool {
	return to[v]>>w&1 == 1
}

// isOrientedIn wants one of two arcs for each two neighbors, and none for others.
func isOrientedIn(g impl.Graph, to []int) bool {
	if len(to) != g.Size {
		return false
	}
	for v := range to {
		if to[v] < 0 || to[v] >= 1<<g.Size || leads(to, v, v) {
			return false
		}
		for w := range v {
			if joined(g, v, w) != (leads(to, v, w) != leads(to, w, v)) || leads(to, v, w) && leads(to, w, v) {
				return false
			}
		}
	}
	return true
}

func isTransitiveIn(to []int) bool {
	for a := range to {
		for b := range to {
			for c := range to {
				if leads(to, a, b) && leads(to, b, c) && !leads(to, a, c) {
					return false
				}
			}
		}
	}
	return true
}

// eachOrientation goes through all ways to orient the edges, until visit returns false.
func eachOrientation(g impl.Graph, visit func(to []int) bool) {
	edges := edgeList(g)
	for bits := range 1 << len(edges) {
		to := make([]int, g.Size)
		for i, edge := range edges {
			from := bits >> i & 1
			to[edge[from]] |= 1 << edge[1-from]
		}
		if !visit(to) {
			return
		}
	}
}

func edgeList(g impl.Graph) [][]int {
	var edges [][]int
	for v := range g.Size {
		for w := v + 1; w < g.Size; w++ {
			if joined(g, v, w) {
				edges = append(edges, []int{v, w})
			}
		}
	}
	return edges
}

func hasTransitive(g impl.Graph) bool {
	found := false
	eachOrientation(g, func(to []int) bool {
		found = isTransitiveIn(to)
		return !found
	})
	return found
}

// forces says of two arcs along edges what the document says.
func forces(g impl.Graph, arc, other []int) bool {
	if slices.Equal(arc, other) {
		return false
	}
	return arc[0] == other[0] && !joined(g, other[1], arc[1]) || arc[1] == other[1] && !joined(g, other[0], arc[0])
}

// forcedIn also returns, for each arc, the index of the one by which it was found.
func forcedIn(g impl.Graph, a, b int) (arcs [][]int, by []int) {
	arcs, by = [][]int{{a, b}}, []int{-1}
	for i := 0; i < len(arcs); i++ {
		for v := range g.Size {
			for w := range g.Size {
				next := []int{v, w}
				known := slices.ContainsFunc(arcs, func(arc []int) bool { return slices.Equal(arc, next) })
				if joined(g, v, w) && !known && forces(g, arcs[i], next) {
					arcs, by = append(arcs, next), append(by, i)
				}
			}
		}
	}
	return arcs, by
}

// orientedIn takes the edges with all that they force out of the graph, one group after the other.
func orientedIn(g impl.Graph) ([]int, bool) {
	left, to := impl.Graph{Size: g.Size, Rows: slices.Clone(g.Rows)}, make([]int, g.Size)
	for edges := edgeList(left); len(edges) > 0; edges = edgeList(left) {
		arcs, _ := forcedIn(left, edges[0][0], edges[0][1])
		for _, arc := range arcs {
			to[arc[0]] |= 1 << arc[1]
			left.Rows[arc[0]] &^= 1 << arc[1]
			left.Rows[arc[1]] &^= 1 << arc[0]
		}
	}
	return to, isOrientedIn(g, to)
}

func chainIn(g impl.Graph) [][]int {
	for _, edge := range edgeList(g) {
		arcs, by := forcedIn(g, edge[0], edge[1])
		for i, arc := range arcs {
			if arc[0] == edge[1] && arc[1] == edge[0] {
				var chain [][]int
				for ; i >= 0; i = by[i] {
					chain = slices.Insert(chain, 0, arcs[i])
				}
				return chain
			}
		}
	}
	return nil
}

// heightIn goes back along all arcs that lead to v.
func heightIn(to []int, v int) int {
	height := 0
	for u := range to {
		if leads(to, u, v) {
			height = max(height, 1+heightIn(to, u))
		}
	}
	return height
}

func TestIsOrientationAndIsTransitive(t *testing.T) {
	check := func(g impl.Graph, to []int) {
		o, oriented := impl.Orientation{To: to}, isOrientedIn(g, to)
		if impl.IsOrientation(g, o) != oriented {
			t.Errorf("IsOrientation(%v, %v) is %t", g, o, !oriented)
		}
		if want := oriented && isTransitiveIn(to); impl.IsTransitive(g, o) != want {
			t.Errorf("IsTransitive(%v, %v) is %t", g, o, !want)
		}
	}
	for bits := range 1 << 9 {
		eachGraphOf(3, func(g impl.Graph) { check(g, []int{bits & 7, bits >> 3 & 7, bits >> 6}) })
	}
	eachPartGraph(func(g impl.Graph) {
		edges := 0
		eachOrientation(g, func(to []int) bool {
			check(g, to)
			changed := slices.Clone(to)
			changed[edges%g.Size] ^= 1 << (edges / 3 % (g.Size + 1))
			check(g, changed)
			edges++
			return edges < 300
		})
	})
}

func TestForcedArcs(t *testing.T) {
	eachPartGraph(func(g impl.Graph) {
		for a := range g.Size {
			for b := range g.Size {
				var want [][]int
				if joined(g, a, b) {
					want, _ = forcedIn(g, a, b)
				}
				got := impl.ForcedArcs(g, a, b)
				if !equalLists(got, want) {
					t.Errorf("ForcedArcs(%v, %d, %d) = %v, want %v", g, a, b, got, want)
				}
				checkApart(t, "ForcedArcs", append(got, g.Rows)...)
			}
		}
	})
	got := impl.ForcedArcs(graphFrom(t, "5: 01 02 13 24 34"), 1, 0)
	if want := [][]int{{1, 0}, {1, 3}, {2, 0}, {4, 3}, {2, 4}, {4, 2}, {3, 4}, {0, 2}, {3, 1}, {0, 1}}; !equalLists(got, want) {
		t.Errorf("ForcedArcs = %v, want %v", got, want)
	}
}

func TestOrientationOf(t *testing.T) {
	eachGraph(func(g impl.Graph) {
		want, wantOk := orientedIn(g)
		if !wantOk {
			want = nil
		}
		o, ok := impl.OrientationOf(g)
		checkList(t, "OrientationOf "+formatted(g), o.To, ok, want, wantOk)
		if impl.IsComparability(g) != wantOk || impl.IsTransitive(g, o) != wantOk {
			t.Errorf("%v has the orientation %v", g, o)
		}
	})
	o, ok := impl.OrientationOf(graphFrom(t, "5: 01 02 03 13 23 24"))
	checkList(t, "OrientationOf", o.To, ok, []int{14, 0, 0, 6, 4}, true)
}

func TestTransitiveOrientationMeansThatNoArcForcesItsOpposite(t *testing.T) {
	check := func(g impl.Graph) {
		want := chainIn(g)
		chain, ok := impl.ForcingChain(g)
		if ok != (want != nil) || !equalLists(chain, want) {
			t.Errorf("ForcingChain(%v) = %v, %t, want %v", g, chain, ok, want)
		}
		if comparability := hasTransitive(g); comparability == ok || impl.IsComparability(g) != comparability {
			t.Errorf("%v: comparability %t, forcing chain %v", g, comparability, chain)
		}
		if ok != impl.IsForcingChain(g, chain) {
			t.Errorf("IsForcingChain(%v, %v) is %t", g, chain, !ok)
		}
		checkApart(t, "ForcingChain", append(chain, g.Rows)...)
	}
	for n := 1; n <= 4; n++ {
		eachGraphOf(n, check)
	}
	for bits := 0; bits < 1<<10; bits += 3 {
		check(graphOf(5, bits))
	}
	for _, text := range []string{"5: 01 04 12 23 34", "6: 01 02 03 12 14 25", "7: 01 06 12 23 34 45 56", "7: 01 02 03 14 25 36", "7: 02 05 14 25 34 36", "6: 01 05 12 23 34 45"} {
		check(graphFrom(t, text))
	}
}

func TestIsForcingChain(t *testing.T) {
	g := graphFrom(t, "5: 01 04 12 23 34")
	chain := [][]int{{0, 1}, {2, 1}, {2, 3}, {4, 3}, {4, 0}, {1, 0}}
	if !impl.IsForcingChain(g, chain) {
		t.Fatalf("IsForcingChain refuses %v", chain)
	}
	for i := range chain {
		for a := -1; a < 6; a++ {
			for b := -1; b < 6; b++ {
				changed := slices.Clone(chain)
				changed[i] = []int{a, b}
				if impl.IsForcingChain(g, changed) != slices.Equal(chain[i], changed[i]) {
					t.Errorf("IsForcingChain(%v, %v) is %t", g, changed, impl.IsForcingChain(g, changed))
				}
			}
		}
		for _, arc := range [][]int{nil, {1}, {0, 1, 2}, {0, 1, 0}, {0, 64}, {-64, 1}} {
			changed := slices.Clone(chain)
			changed[i] = arc
			if impl.IsForcingChain(g, changed) {
				t.Errorf("IsForcingChain accepts %v", changed)
			}
		}
		if impl.IsForcingChain(g, slices.Delete(slices.Clone(chain), i, i+1)) || impl.IsForcingChain(g, slices.Insert(slices.Clone(chain), i, chain[i])) {
			t.Errorf("IsForcingChain accepts a chain with %v left out or repeated", chain[i])
		}
	}
	for _, l := range [][][]int{nil, {{0, 1}}, {{0, 1}, {1, 0}}, {{0, 1}, {0, 1}}, {{0, 2}, {2, 0}}, chain[:5], chain[1:]} {
		if impl.IsForcingChain(g, l) {
			t.Errorf("IsForcingChain accepts %v", l)
		}
	}
}

func TestIsForcingChainOfManyArcs(t *testing.T) {
	g := graphFrom(t, "6: 01 04 05 12 23 34")
	even := [][]int{{0, 1}, {2, 1}, {2, 3}, {4, 3}, {4, 0}, {1, 0}}
	odd := append([][]int{{0, 1}, {0, 5}, {0, 4}}, even...)
	for _, chain := range [][][]int{even, odd} {
		for len(chain) < 70 {
			if impl.IsForcingChain(g, chain) != (len(chain) <= 60) {
				t.Errorf("IsForcingChain of %d arcs is %t", len(chain), len(chain) > 60)
			}
			// Two arcs that force each other may follow one another as often as one likes.
			chain = append([][]int{{0, 1}, {2, 1}}, chain...)
		}
	}
}

func TestHeightsOf(t *testing.T) {
	eachPartGraph(func(g impl.Graph) {
		count := 0
		eachOrientation(g, func(to []int) bool {
			var want []int
			if isTransitiveIn(to) {
				for v := range to {
					want = append(want, heightIn(to, v))
				}
			}
			if got := impl.HeightsOf(g, impl.Orientation{To: to}); !slices.Equal(got, want) {
				t.Errorf("HeightsOf(%v, %v) = %v, want %v", g, to, got, want)
			}
			count++
			return count < 300
		})
	})
	// The arcs lead from greater vertices to lesser ones, so that heights are passed on against their order.
	to := []int{0, 1, 3, 7, 15, 31, 63}
	if got := impl.HeightsOf(named(t, "complete", 7), impl.Orientation{To: to}); !slices.Equal(got, []int{6, 5, 4, 3, 2, 1, 0}) {
		t.Errorf("HeightsOf = %v", got)
	}
}

func TestGraphWithOneEdge(t *testing.T) {
	for n := 2; n <= 7; n++ {
		for i := range n * (n - 1) / 2 {
			g := graphOf(n, 1<<i)
			edge, want := edgeList(g)[0], make([]int, n)
			want[edge[0]] = 1 << edge[1]
			o, ok := impl.OrientationOf(g)
			checkList(t, "OrientationOf", o.To, ok, want, true)
			if arcs := impl.ForcedArcs(g, edge[1], edge[0]); !equalLists(arcs, [][]int{{edge[1], edge[0]}}) {
				t.Errorf("ForcedArcs of one edge = %v", arcs)
			}
			heights := make([]int, n)
			heights[edge[1]] = 1
			chain, ok := impl.ForcingChain(g)
			if ok || len(chain) != 0 || !slices.Equal(impl.HeightsOf(g, o), heights) || impl.IsForcingChain(g, [][]int{edge, {edge[1], edge[0]}}) {
				t.Errorf("%v has the chain %v and the heights %v", g, chain, impl.HeightsOf(g, o))
			}
		}
	}
}

func TestOrientationFunctionsRefuseInvalidArguments(t *testing.T) {
	g := graphFrom(t, "2: 01")
	for _, to := range [][]int{nil, {2}, {2, 0, 0}, {0, 0}, {2, 1}, {3, 0}, {2, 2}, {-2, 0}, {6, 0}, {2 + 128, 0}, {1, 0}, {-1, -1}} {
		if o := (impl.Orientation{To: to}); impl.IsOrientation(g, o) || impl.IsTransitive(g, o) || len(impl.HeightsOf(g, o)) != 0 {
			t.Errorf("the orientation %v is accepted", to)
		}
	}
	for _, v := range append(strangeNumbers(), 2, 64) {
		o := impl.Orientation{To: []int{2, v}}
		if len(impl.ForcedArcs(g, v, 0)) != 0 || len(impl.ForcedArcs(g, 0, v)) != 0 || impl.IsOrientation(g, o) {
			t.Errorf("%d is accepted", v)
		}
	}
	for _, g := range invalidGraphs() {
		o, ok := impl.OrientationOf(g)
		checkNoList(t, "OrientationOf", o.To, ok)
		chain, ok := impl.ForcingChain(g)
		if ok || len(chain) != 0 || impl.IsComparability(g) || len(impl.ForcedArcs(g, 0, 1)) != 0 || impl.IsForcingChain(g, [][]int{{0, 1}, {1, 0}}) {
			t.Errorf("ForcingChain(%v) = %v, %t", g, chain, ok)
		}
		for n := range 9 {
			o := impl.Orientation{To: make([]int, n)}
			if impl.IsOrientation(g, o) || impl.IsTransitive(g, o) || len(impl.HeightsOf(g, o)) != 0 {
				t.Errorf("%v is accepted with %v", g, o)
			}
		}
	}
}

func TestOrientationFunctionsLeaveArgumentsAlone(t *testing.T) {
	for _, plain := range append(invalidGraphs(), graphOf(3, 7), graphOf(4, 0b101101), graphOf(7, 12345)) {
		g, checkRows := guardedGraph(plain)
		to, checkTo := guarded([]int{6, 4, 0})
		arc, checkArc := guarded([]int{0, 1})
		o := impl.Orientation{To: to}
		impl.IsOrientation(g, o)
		impl.IsTransitive(g, o)
		impl.IsComparability(g)
		impl.IsForcingChain(g, [][]int{arc, arc})
		made, _ := impl.OrientationOf(g)
		chain, _ := impl.ForcingChain(g)
		arcs := impl.ForcedArcs(g, 0, 1)
		checkApart(t, "results", slices.Concat(chain, arcs, [][]int{g.Rows, to, arc, made.To, impl.HeightsOf(g, o)})...)
		checkRows(t, "a function of chapter 13")
		checkTo(t, "a function of chapter 13")
		checkArc(t, "a function of chapter 13")
	}
}

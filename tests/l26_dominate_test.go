package tests

import (
	"testing"

	"loop.example/g02081/impl"
)

func dominatesIn(g impl.Graph, set int) bool {
	for v := range g.Size {
		if set>>v&1 == 0 && g.Rows[v]&set == 0 {
			return false
		}
	}
	return true
}

// isPackedIn asks for a distance of more than two between any two vertices.
func isPackedIn(g impl.Graph, set int) bool {
	far := distancesIn(g)
	for _, v := range members(set) {
		for _, w := range members(set) {
			if v != w && far[v][w] <= 2 {
				return false
			}
		}
	}
	return true
}

func fewestDominatingIn(g impl.Graph) int {
	best := 1<<g.Size - 1
	eachSet(g, func(set int) {
		if n := len(members(set)); dominatesIn(g, set) && (n < len(members(best)) || n == len(members(best)) && set < best) {
			best = set
		}
	})
	return best
}

// greedyIn keeps the vertices that were not gone through in a list.
func greedyIn(g impl.Graph) (int, bool) {
	order, ok := simpleOrderIn(g)
	set := 0
	for i, v := range order {
		rest := setFrom(order[i:])
		if set>>v&1 == 1 || g.Rows[v]&set != 0 {
			continue
		}
		best := -1
		for u := range g.Size {
			near := rest>>u&1 == 1 && (u == v || joined(g, u, v))
			if near && (best < 0 || len(members(g.Rows[u]&rest)) > len(members(g.Rows[best]&rest))) {
				best = u
			}
		}
		set |= 1 << best
	}
	return set, ok
}

func TestDominatingSets(t *testing.T) {
	eachGraph(func(g impl.Graph) {
		eachSet(g, func(set int) {
			if want := dominatesIn(g, set); impl.IsDominating(g, set) != want {
				t.Errorf("IsDominating(%v, %d) is %t", g, set, !want)
			}
		})
		want := fewestDominatingIn(g)
		if got := impl.FewestDominating(g); got != want {
			t.Errorf("FewestDominating(%v) = %d, want %d", g, got, want)
		}
	})
}

func TestPackings(t *testing.T) {
	eachGraph(func(g impl.Graph) {
		eachSet(g, func(set int) {
			if want := isPackedIn(g, set); impl.IsPacking(g, set) != want {
				t.Errorf("IsPacking(%v, %d) is %t", g, set, !want)
			}
		})
		want := bestSet(g, func(set int) bool { return isPackedIn(g, set) })
		if got := impl.LargestPacking(g); got != want {
			t.Errorf("LargestPacking(%v) = %d, want %d", g, got, want)
		}
		gap := len(members(fewestDominatingIn(g))) - len(members(want))
		if got := impl.DominationGap(g); got != gap || got < 0 {
			t.Errorf("DominationGap(%v) = %d, want %d", g, got, gap)
		}
	})
}

func TestGreedyDominating(t *testing.T) {
	check := func(g impl.Graph) {
		want, wantOk := greedyIn(g)
		if !wantOk {
			want = 0
		}
		set, ok := impl.GreedyDominating(g)
		if set != want || ok != wantOk || ok && !dominatesIn(g, set) {
			t.Errorf("GreedyDominating(%v) = %d, %t, want %d, %t", g, set, ok, want, wantOk)
		}
	}
	eachGraph(check)
	for bits := 5; bits < 1<<15; bits += 37 {
		check(graphOf(6, bits))
	}
	for _, g := range suns() {
		check(g)
	}
	for text, want := range map[string]int{"7: 01 12 23 34 45 56": 0b1010010, "7: 02 12 23 34 45 46": 0b0010100, "6: 01 02 12 13 23 34 45": 0b010010, "4: 01 23": 0b0101, "7: 03 13 23 34 45 46": 0b0011000} {
		if set, ok := impl.GreedyDominating(graphFrom(t, text)); set != want || !ok {
			t.Errorf("GreedyDominating of %q = %b, %t, want %b", text, set, ok, want)
		}
	}
}

func TestDominatingSetIsAsLargeAsAPacking(t *testing.T) {
	strong, gaps := 0, 0
	check := func(g impl.Graph) {
		gap := impl.DominationGap(g)
		if gap < 0 {
			t.Errorf("DominationGap(%v) = %d", g, gap)
		}
		if hasHole(g) || hasSun(g) {
			gaps += gap
			return
		}
		strong++
		set, packing := impl.FewestDominating(g), impl.LargestPacking(g)
		if gap != 0 || len(members(set)) != len(members(packing)) || !dominatesIn(g, set) || !isPackedIn(g, packing) {
			t.Errorf("%v has the dominating set %b and the packing %b", g, set, packing)
		}
	}
	eachGraph(check)
	for bits := 2; bits < 1<<15; bits += 17 {
		check(graphOf(6, bits))
	}
	if strong == 0 || gaps == 0 {
		t.Errorf("%d strongly chordal graphs, gaps of %d for others", strong, gaps)
	}
}

func TestVertexThatDominatesAll(t *testing.T) {
	for n := 1; n <= 7; n++ {
		for center := range n {
			g := impl.Graph{Size: n, Rows: make([]int, n)}
			for v := range n {
				if v != center {
					g.Rows[v], g.Rows[center] = 1<<center, g.Rows[center]|1<<v
				}
			}
			// With two vertices each one dominates all.
			want := 1 << center
			if n == 2 {
				want = 1
			}
			if impl.FewestDominating(g) != want || impl.LargestPacking(g) != 1 || impl.DominationGap(g) != 0 || !impl.IsDominating(g, 1<<center) {
				t.Errorf("FewestDominating(%v) = %d, LargestPacking = %d", g, impl.FewestDominating(g), impl.LargestPacking(g))
			}
			if set, ok := impl.GreedyDominating(g); set != want || !ok {
				t.Errorf("GreedyDominating(%v) = %d, %t", g, set, ok)
			}
			if !impl.IsPacking(g, 1<<center) || !impl.IsPacking(g, 0) || n > 1 && impl.IsPacking(g, 3) || n > 2 && impl.IsPacking(g, 6) {
				t.Errorf("IsPacking does not tell the sets of %v", g)
			}
		}
		complete := named(t, "complete", n)
		if impl.FewestDominating(complete) != 1 || impl.LargestPacking(complete) != 1 || impl.IsDominating(complete, 0) {
			t.Errorf("FewestDominating of %d neighbors = %d", n, impl.FewestDominating(complete))
		}
	}
}

func TestDominationFunctionsRefuseInvalidArguments(t *testing.T) {
	for _, set := range append(strangeNumbers(), 4, 7, 8) {
		if impl.IsDominating(graphFrom(t, "2: 01"), set) || impl.IsPacking(graphFrom(t, "2: 01"), set) {
			t.Errorf("the set %d is accepted", set)
		}
	}
	for _, g := range invalidGraphs() {
		if impl.FewestDominating(g) != -1 || impl.LargestPacking(g) != 0 || impl.DominationGap(g) != -1 {
			t.Errorf("FewestDominating(%v) = %d, LargestPacking = %d, DominationGap = %d", g, impl.FewestDominating(g), impl.LargestPacking(g), impl.DominationGap(g))
		}
		if set, ok := impl.GreedyDominating(g); set != 0 || ok {
			t.Errorf("GreedyDominating(%v) = %d, %t", g, set, ok)
		}
		for set := range 9 {
			if impl.IsDominating(g, set) || impl.IsPacking(g, set) {
				t.Errorf("%v is accepted with the set %d", g, set)
			}
		}
	}
}

func TestDominationFunctionsLeaveArgumentsAlone(t *testing.T) {
	for _, plain := range append(invalidGraphs(), graphOf(4, 0b101101), graphOf(5, 3), graphOf(7, 12345)) {
		g, checkRows := guardedGraph(plain)
		impl.IsDominating(g, 3)
		impl.FewestDominating(g)
		impl.IsPacking(g, 3)
		impl.LargestPacking(g)
		impl.GreedyDominating(g)
		impl.DominationGap(g)
		checkRows(t, "a function of chapter 26")
	}
}

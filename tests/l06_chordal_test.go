package tests

import (
	"slices"
	"testing"

	"loop.example/g02081/impl"
)

// hasHole looks for a set of at least four vertices that is a circle: one part in which each has two neighbors.
func hasHole(g impl.Graph) bool {
	for set := range 1 << g.Size {
		circle := len(members(set)) >= 4 && len(partsIn(g, set)) == 1
		for _, v := range members(set) {
			circle = circle && len(members(g.Rows[v]&set)) == 2
		}
		if circle {
			return true
		}
	}
	return false
}

func laterIn(g impl.Graph, order []int, v int) int {
	later := 0
	for _, w := range order[slices.Index(order, v)+1:] {
		if joined(g, v, w) {
			later |= 1 << w
		}
	}
	return later
}

func isEliminationIn(g impl.Graph, order []int) bool {
	for _, v := range order {
		if !isCliqueIn(g, laterIn(g, order, v)) {
			return false
		}
	}
	return true
}

// eliminated takes the least vertex whose neighbors are a clique until there is none.
func eliminated(g impl.Graph) ([]int, bool) {
	left, order := 1<<g.Size-1, []int{}
	for v := 0; v < g.Size; v++ {
		if left>>v&1 == 1 && isCliqueIn(g, g.Rows[v]&left) {
			order = append(order, v)
			left &^= 1 << v
			v = -1
		}
	}
	if left != 0 {
		return nil, false
	}
	return order, true
}

// filled lists the edges that are new after each vertex has had its later neighbors joined.
func filled(g impl.Graph, order []int) [][]int {
	h := impl.Graph{Size: g.Size, Rows: slices.Clone(g.Rows)}
	for i, v := range order {
		for _, a := range order[i+1:] {
			for _, b := range order[i+1:] {
				if a != b && joined(h, v, a) && joined(h, v, b) {
					h.Rows[a] |= 1 << b
				}
			}
		}
	}
	var edges [][]int
	for v := range g.Size {
		for w := v + 1; w < g.Size; w++ {
			if joined(h, v, w) && !joined(g, v, w) {
				edges = append(edges, []int{v, w})
			}
		}
	}
	return edges
}

// noOrders are lists that are no orders of a graph of 3 vertices.
func noOrders() [][]int {
	return [][]int{nil, {0}, {0, 1}, {0, 1, 1}, {0, 1, 3}, {0, 1, -1}, {0, 1, 64}, {0, 1, 2, 0}, {0, 1, 2, 3}, {2, 2, 2}}
}

func TestIsEliminationAndLaterNeighbours(t *testing.T) {
	eachPartGraph(func(g impl.Graph) {
		eachList(g.Size, g.Size, func(order []int) bool {
			if impl.IsElimination(g, order) != isEliminationIn(g, order) {
				t.Errorf("IsElimination(%v, %v) is %t", g, order, impl.IsElimination(g, order))
			}
			for v := range g.Size {
				if got, want := impl.LaterNeighbours(g, order, v), laterIn(g, order, v); got != want {
					t.Errorf("LaterNeighbours(%v, %v, %d) = %d, want %d", g, order, v, got, want)
				}
			}
			return true
		})
	})
}

func TestEliminationOf(t *testing.T) {
	eachGraph(func(g impl.Graph) {
		want, wantOk := eliminated(g)
		got, ok := impl.EliminationOf(g)
		checkList(t, "EliminationOf of "+formatted(g), got, ok, want, wantOk)
		if ok && !impl.IsElimination(g, got) {
			t.Errorf("EliminationOf(%v) = %v is none", g, got)
		}
	})
}

func TestIsChordalMeansThatThereIsNoHole(t *testing.T) {
	chordal := make([]int, 6)
	for n := 1; n <= 5; n++ {
		eachGraphOf(n, func(g impl.Graph) {
			if impl.IsChordal(g) {
				chordal[n]++
			}
		})
	}
	if !slices.Equal(chordal, []int{0, 1, 2, 8, 61, 822}) {
		t.Errorf("numbers of chordal graphs: %v", chordal)
	}
	eachGraph(func(g impl.Graph) {
		if impl.IsChordal(g) == hasHole(g) {
			t.Errorf("IsChordal(%v) is %t", g, impl.IsChordal(g))
		}
	})
}

func TestSimplicialOf(t *testing.T) {
	eachGraph(func(g impl.Graph) {
		var want []int
		for v := range g.Size {
			if isCliqueIn(g, g.Rows[v]) {
				want = append(want, v)
			}
		}
		if got := impl.SimplicialOf(g); !slices.Equal(got, want) {
			t.Errorf("SimplicialOf(%v) = %v, want %v", g, got, want)
		}
	})
}

func TestFillOf(t *testing.T) {
	eachPartGraph(func(g impl.Graph) {
		eachList(g.Size, g.Size, func(order []int) bool {
			got, ok := impl.FillOf(g, order)
			if want := filled(g, order); !ok || !equalLists(got, want) {
				t.Errorf("FillOf(%v, %v) = %v, %t, want %v", g, order, got, ok, want)
			}
			if isEliminationIn(g, order) != (len(got) == 0) {
				t.Errorf("FillOf(%v, %v) = %v", g, order, got)
			}
			return g.Size < 7 || order[0] == 0
		})
	})
	fill, _ := impl.FillOf(named(t, "star", 7), []int{0, 1, 2, 3, 4, 5, 6})
	if len(fill) != 15 {
		t.Errorf("FillOf a star = %v", fill)
	}
	checkApart(t, "FillOf", fill...)
}

func TestFillJoinsNeighborsThatAreNew(t *testing.T) {
	got, ok := impl.FillOf(named(t, "cycle", 6), []int{0, 1, 2, 3, 4, 5})
	if !ok || !equalLists(got, [][]int{{1, 5}, {2, 5}, {3, 5}}) {
		t.Errorf("FillOf a circle = %v, %t", got, ok)
	}
}

func TestReversedLexOrdersOfChordalGraphsAreEliminations(t *testing.T) {
	eachGraph(func(g impl.Graph) {
		for start := range g.Size {
			if impl.IsLexElimination(g, start) == hasHole(g) {
				t.Errorf("IsLexElimination(%v, %d) is %t", g, start, impl.IsLexElimination(g, start))
			}
		}
	})
	eachPartGraph(func(g impl.Graph) {
		if hasHole(g) {
			return
		}
		eachList(g.Size, g.Size, func(order []int) bool {
			reversed := slices.Clone(order)
			slices.Reverse(reversed)
			if impl.IsLexOrder(g, order) && !impl.IsElimination(g, reversed) {
				t.Errorf("%v is no elimination of %v", reversed, g)
			}
			return true
		})
	})
}

func TestGraphWithoutEdges(t *testing.T) {
	for n := 1; n <= 7; n++ {
		g, all := named(t, "empty", n), members(1<<n-1)
		order, ok := impl.EliminationOf(g)
		checkList(t, "EliminationOf", order, ok, all, true)
		if !slices.Equal(impl.SimplicialOf(g), all) || !impl.IsChordal(g) {
			t.Errorf("%d vertices without edges: SimplicialOf = %v", n, impl.SimplicialOf(g))
		}
		fill, ok := impl.FillOf(g, all)
		if !ok || len(fill) != 0 || !impl.IsElimination(g, all) || !impl.IsLexElimination(g, n-1) || impl.LaterNeighbours(g, all, 0) != 0 {
			t.Errorf("%d vertices without edges: FillOf = %v, %t", n, fill, ok)
		}
	}
}

func TestChordalFunctionsRefuseWhatIsNoOrder(t *testing.T) {
	g := graphFrom(t, "3: 01 12")
	for _, order := range noOrders() {
		checkNoElimination(t, g, order)
	}
	for _, v := range append(strangeNumbers(), 3, 7, 64) {
		if impl.LaterNeighbours(g, []int{0, 1, 2}, v) != 0 || impl.IsLexElimination(g, v) {
			t.Errorf("the vertex %d is accepted", v)
		}
	}
	for _, g := range invalidGraphs() {
		for n := range 9 {
			checkNoElimination(t, g, members(1<<n-1))
		}
		order, ok := impl.EliminationOf(g)
		checkNoList(t, "EliminationOf", order, ok)
		if impl.IsChordal(g) || len(impl.SimplicialOf(g)) != 0 || impl.IsLexElimination(g, 0) {
			t.Errorf("%v counts as chordal", g)
		}
	}
}

func checkNoElimination(t *testing.T, g impl.Graph, order []int) {
	t.Helper()
	fill, ok := impl.FillOf(g, order)
	if impl.IsElimination(g, order) || len(fill) != 0 || ok {
		t.Errorf("%v is accepted as an order of %v, with fill %v, %t", order, g, fill, ok)
	}
	for v := range 3 {
		if impl.LaterNeighbours(g, order, v) != 0 {
			t.Errorf("LaterNeighbours(%v, %v, %d) = %d", g, order, v, impl.LaterNeighbours(g, order, v))
		}
	}
}

func TestChordalFunctionsLeaveArgumentsAlone(t *testing.T) {
	for _, plain := range append(invalidGraphs(), graphOf(4, 0b101101), graphOf(4, 1), graphOf(7, 12345)) {
		g, checkRows := guardedGraph(plain)
		l, checkNumbers := guarded([]int{3, 1, 2, 0})
		impl.IsElimination(g, l)
		impl.IsChordal(g)
		impl.LaterNeighbours(g, l, 1)
		impl.IsLexElimination(g, 0)
		order, _ := impl.EliminationOf(g)
		fill, _ := impl.FillOf(g, l)
		checkApart(t, "results", append(fill, g.Rows, l, order, impl.SimplicialOf(g))...)
		checkRows(t, "a function of chapter 6")
		checkNumbers(t, "a function of chapter 6")
	}
}

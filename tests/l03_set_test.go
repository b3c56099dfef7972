package tests

import (
	"slices"
	"testing"

	"loop.example/g02081/impl"
)

// eachSet visits all sets of vertices of a graph, the empty one first.
func eachSet(g impl.Graph, visit func(set int)) {
	for set := range 1 << g.Size {
		visit(set)
	}
}

// reachable is a table of which vertices have ways within a set, by the rule of Warshall.
func reachable(g impl.Graph, set int) [7][7]bool {
	var way [7][7]bool
	for _, v := range members(set) {
		for _, w := range members(set) {
			way[v][w] = v == w || joined(g, v, w)
		}
	}
	for between := range g.Size {
		for v := range g.Size {
			for w := range g.Size {
				way[v][w] = way[v][w] || way[v][between] && way[between][w]
			}
		}
	}
	return way
}

// partsIn is what PartsOf should return.
func partsIn(g impl.Graph, set int) []int {
	way, parts, seen := reachable(g, set), []int{}, 0
	for _, v := range members(set) {
		part := 0
		for _, w := range members(set) {
			if way[v][w] {
				part |= 1 << w
			}
		}
		if seen&part == 0 {
			parts = append(parts, part)
		}
		seen |= part
	}
	return parts
}

// edgesWithin counts the edges between vertices of a set.
func edgesWithin(g impl.Graph, set int) int {
	n := 0
	for _, v := range members(set) {
		n += len(members(g.Rows[v] & set))
	}
	return n / 2
}

func isCliqueIn(g impl.Graph, set int) bool {
	k := len(members(set))
	return edgesWithin(g, set) == k*(k-1)/2
}

func TestIsSet(t *testing.T) {
	for n := 1; n <= 7; n++ {
		g := graphOf(n, 1)
		for set := -3; set < 300; set++ {
			if impl.IsSet(g, set) != (set >= 0 && set < 1<<n) {
				t.Errorf("IsSet(%v, %d) is %t", g, set, impl.IsSet(g, set))
			}
		}
		for _, set := range strangeNumbers() {
			if impl.IsSet(g, set) {
				t.Errorf("IsSet(%v, %d) is true", g, set)
			}
		}
	}
	for _, g := range invalidGraphs() {
		if impl.IsSet(g, 0) || impl.IsSet(g, 1) {
			t.Errorf("IsSet of %v is true", g)
		}
	}
}

func TestListOfSetOfAndCountSet(t *testing.T) {
	for set := range 128 {
		want := members(set)
		got := impl.ListOf(set)
		if !slices.Equal(got, want) || impl.CountSet(set) != len(want) {
			t.Errorf("ListOf(%d) = %v, CountSet = %d, want %v", set, got, impl.CountSet(set), want)
		}
		if back, ok := impl.SetOf(got); !ok || back != set {
			t.Errorf("SetOf(%v) = %d, %t, want %d", got, back, ok, set)
		}
		slices.Reverse(got)
		if back, ok := impl.SetOf(got); !ok || back != set {
			t.Errorf("SetOf(%v) = %d, %t, want %d", got, back, ok, set)
		}
	}
	for _, set := range append(strangeNumbers(), 129, 255, 256) {
		if len(impl.ListOf(set)) != 0 || impl.CountSet(set) != 0 {
			t.Errorf("ListOf(%d) = %v, CountSet = %d", set, impl.ListOf(set), impl.CountSet(set))
		}
	}
}

func TestSetOfRefusesStrangeAndRepeatedVertices(t *testing.T) {
	lists := [][]int{{0, 0}, {2, 2}, {6, 1, 6}, {0, 1, 2, 3, 4, 5, 6, 0}, {7}, {0, 7}, {7, 0}, {-1}, {3, -1}, {1, 63}, {64}, {65, 1}, make([]int, 1000)}
	for _, v := range strangeNumbers() {
		lists = append(lists, []int{v}, []int{1, v})
	}
	for _, l := range lists {
		if set, ok := impl.SetOf(l); set != 0 || ok {
			t.Errorf("SetOf(%v) = %d, %t", l, set, ok)
		}
	}
}

func TestEmptySet(t *testing.T) {
	g := graphFrom(t, "3: 01")
	if !impl.IsSet(g, 0) || len(impl.ListOf(0)) != 0 || impl.CountSet(0) != 0 || impl.AroundSet(g, 0) != 0 || len(impl.PartsOf(g, 0)) != 0 {
		t.Error("the empty set has vertices, neighbors or parts")
	}
	for _, l := range [][]int{nil, {}} {
		if set, ok := impl.SetOf(l); set != 0 || !ok {
			t.Errorf("SetOf of no vertices = %d, %t", set, ok)
		}
	}
	if !impl.IsClique(g, 0) || !impl.IsIndependent(g, 0) {
		t.Error("the empty set is no clique or not independent")
	}
	h, ok := impl.InducedOn(g, 0)
	checkNoGraph(t, "InducedOn the empty set", h, ok)
	if s := impl.FormatSet(0); s != "-" {
		t.Errorf("FormatSet(0) = %q", s)
	}
}

func TestAroundSetAndPartsOf(t *testing.T) {
	eachGraph(func(g impl.Graph) {
		eachSet(g, func(set int) {
			around := set
			for _, v := range members(set) {
				around |= g.Rows[v]
			}
			if got := impl.AroundSet(g, set); got != around {
				t.Errorf("AroundSet(%v, %d) = %d, want %d", g, set, got, around)
			}
			if got := impl.PartsOf(g, set); !slices.Equal(got, partsIn(g, set)) {
				t.Errorf("PartsOf(%v, %d) = %v, want %v", g, set, got, partsIn(g, set))
			}
		})
	})
}

func TestPartsOfAreInTheOrderOfTheirLeastVertices(t *testing.T) {
	g := graphFrom(t, "7: 06 15 24")
	if parts := impl.PartsOf(g, 127); !slices.Equal(parts, []int{65, 34, 20, 8}) {
		t.Errorf("PartsOf = %v", parts)
	}
	if parts := impl.PartsOf(g, 112); !slices.Equal(parts, []int{16, 32, 64}) {
		t.Errorf("PartsOf = %v", parts)
	}
}

func TestIsCliqueAndIsIndependent(t *testing.T) {
	eachGraph(func(g impl.Graph) {
		eachSet(g, func(set int) {
			if impl.IsClique(g, set) != isCliqueIn(g, set) {
				t.Errorf("IsClique(%v, %d) is %t", g, set, impl.IsClique(g, set))
			}
			if impl.IsIndependent(g, set) != (edgesWithin(g, set) == 0) {
				t.Errorf("IsIndependent(%v, %d) is %t", g, set, impl.IsIndependent(g, set))
			}
		})
	})
}

func TestInducedOn(t *testing.T) {
	eachGraph(func(g impl.Graph) {
		eachSet(g, func(set int) {
			if set == 0 {
				return
			}
			l := members(set)
			want := impl.Graph{Size: len(l), Rows: make([]int, len(l))}
			for i := range l {
				for j := range l {
					if joined(g, l[i], l[j]) {
						want.Rows[i] |= 1 << j
					}
				}
			}
			got, ok := impl.InducedOn(g, set)
			checkGraph(t, "InducedOn", got, ok, want, true)
		})
	})
}

func TestFormatSet(t *testing.T) {
	for set := 1; set < 128; set++ {
		want := ""
		for _, v := range members(set) {
			want += string(rune('0' + v))
		}
		if got := impl.FormatSet(set); got != want {
			t.Errorf("FormatSet(%d) = %q, want %q", set, got, want)
		}
	}
	for _, set := range strangeNumbers() {
		if got := impl.FormatSet(set); got != "" {
			t.Errorf("FormatSet(%d) = %q", set, got)
		}
	}
}

func TestSetFunctionsRefuseWhatIsNoSet(t *testing.T) {
	g := graphFrom(t, "3: 01")
	for _, set := range append(strangeNumbers(), 8, 9, 15) {
		checkNoSet(t, g, set)
	}
	for _, g := range invalidGraphs() {
		for _, set := range append(strangeNumbers(), 0, 1, 2, 3) {
			checkNoSet(t, g, set)
		}
	}
}

func checkNoSet(t *testing.T, g impl.Graph, set int) {
	t.Helper()
	if impl.IsSet(g, set) || impl.AroundSet(g, set) != 0 || len(impl.PartsOf(g, set)) != 0 || impl.IsClique(g, set) || impl.IsIndependent(g, set) {
		t.Errorf("%d counts as a set of %v", set, g)
	}
	h, ok := impl.InducedOn(g, set)
	checkNoGraph(t, "InducedOn", h, ok)
}

func TestSetFunctionsLeaveArgumentsAlone(t *testing.T) {
	for _, plain := range append(invalidGraphs(), graphOf(4, 0b101101), graphOf(7, 12345)) {
		g, check := guardedGraph(plain)
		for set := range 16 {
			impl.IsSet(g, set)
			impl.AroundSet(g, set)
			impl.IsClique(g, set)
			impl.IsIndependent(g, set)
			h, _ := impl.InducedOn(g, set)
			checkApart(t, "InducedOn and PartsOf", g.Rows, h.Rows, impl.PartsOf(g, set))
		}
		check(t, "a function of chapter 3")
	}
	l, check := guarded([]int{3, 1, 2})
	impl.SetOf(l)
	check(t, "SetOf")
	checkApart(t, "ListOf", impl.ListOf(127), impl.ListOf(127))
}

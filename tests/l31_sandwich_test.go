package tests

import (
	"testing"

	"loop.example/g02081/impl"
)

func liesBetween(g, h, x impl.Graph) bool {
	if g.Size != h.Size || g.Size != x.Size {
		return false
	}
	for v := range g.Size {
		for w := range g.Size {
			if joined(g, v, w) && !joined(x, v, w) || joined(x, v, w) && !joined(h, v, w) {
				return false
			}
		}
	}
	return true
}

// optionalIn lists the pairs of vertices that are neighbors only in h.
func optionalIn(g, h impl.Graph) [][]int {
	var optional [][]int
	for v := range g.Size {
		for w := v + 1; w < g.Size; w++ {
			if joined(h, v, w) && !joined(g, v, w) {
				optional = append(optional, []int{v, w})
			}
		}
	}
	return optional
}

// sandwichesIn lists the graphs of a class, each with the places of its optional edges.
func sandwichesIn(g, h impl.Graph, name string) (graphs []impl.Graph, places [][]int) {
	optional := optionalIn(g, h)
	for number := range 1 << len(optional) {
		var l [][]int
		for _, i := range members(number) {
			l = append(l, optional[i])
		}
		if x, _ := addedIn(g, l); isMemberIn(x, name) {
			graphs, places = append(graphs, x), append(places, members(number))
		}
	}
	return graphs, places
}

// forcedBetween lists the optional edges whose place each sandwich has.
func forcedBetween(g, h impl.Graph, places [][]int) [][]int {
	var forced [][]int
	for i, edge := range optionalIn(g, h) {
		n := 0
		for _, l := range places {
			for _, place := range l {
				if place == i {
					n++
				}
			}
		}
		if n == len(places) {
			forced = append(forced, edge)
		}
	}
	return forced
}

// eachPair visits pairs of a graph and one with some more edges, with at most 6 optional ones.
func eachPair(visit func(g, h impl.Graph)) {
	for n := 1; n <= 3; n++ {
		eachGraphOf(n, func(g impl.Graph) {
			eachGraphOf(n, func(h impl.Graph) {
				if liesBetween(g, h, h) {
					visit(g, h)
				}
			})
		})
	}
	state := uint32(31)
	next := func() int {
		state = state*1664525 + 1013904223
		return int(state >> 8)
	}
	for i := range 500 {
		n := 4 + i%4
		all := 1<<(n*(n-1)/2) - 1
		h := next() & all
		if i%3 == 0 {
			h |= next() & all
		}
		// Few edges are taken away, so that few are optional.
		g := h & (next() | next() | next())
		if a, b := graphOf(n, g), graphOf(n, h); len(optionalIn(a, b)) <= 6 {
			visit(a, b)
		}
	}
}

func checkSandwiches(t *testing.T, g, h impl.Graph, name string) {
	t.Helper()
	graphs, places := sandwichesIn(g, h, name)
	if n := impl.CountSandwiches(g, h, name); n != len(graphs) {
		t.Errorf("CountSandwiches(%v, %v, %q) = %d, want %d", g, h, name, n, len(graphs))
	}
	x, ok := impl.FindSandwich(g, h, name)
	l, okForced := impl.ForcedEdges(g, h, name)
	if len(graphs) == 0 {
		checkNoGraph(t, "FindSandwich", x, ok)
		if len(l) != 0 || okForced {
			t.Errorf("ForcedEdges(%v, %v, %q) = %v, %t", g, h, name, l, okForced)
		}
		return
	}
	checkGraph(t, "FindSandwich", x, ok, graphs[0], true)
	if !impl.IsSandwich(g, h, x) || !liesBetween(g, h, x) || !isMemberIn(x, name) {
		t.Errorf("FindSandwich(%v, %v, %q) = %v is none", g, h, name, x)
	}
	if want := forcedBetween(g, h, places); !okForced || !equalLists(l, want) {
		t.Errorf("ForcedEdges(%v, %v, %q) = %v, %t, want %v", g, h, name, l, okForced, want)
	}
	checkApart(t, "ForcedEdges", append(l, g.Rows, h.Rows, x.Rows)...)
}

func TestIsSandwich(t *testing.T) {
	for n := 1; n <= 3; n++ {
		eachGraphOf(n, func(g impl.Graph) {
			eachGraphOf(n, func(h impl.Graph) {
				eachGraphOf(n, func(x impl.Graph) {
					if want := liesBetween(g, h, x); impl.IsSandwich(g, h, x) != want {
						t.Errorf("IsSandwich(%v, %v, %v) is %t", g, h, x, !want)
					}
				})
			})
		})
	}
	small, large := named(t, "empty", 3), named(t, "empty", 4)
	if impl.IsSandwich(small, small, large) || impl.IsSandwich(small, large, small) || impl.IsSandwich(large, small, small) || impl.IsSandwich(small, large, large) || impl.IsSandwich(large, large, small) {
		t.Error("IsSandwich accepts graphs of different sizes")
	}
}

func TestOptionalEdges(t *testing.T) {
	eachPair(func(g, h impl.Graph) {
		l, ok := impl.OptionalEdges(g, h)
		if want := optionalIn(g, h); !ok || !equalLists(l, want) {
			t.Errorf("OptionalEdges(%v, %v) = %v, %t, want %v", g, h, l, ok, want)
		}
		checkApart(t, "OptionalEdges", append(l, g.Rows, h.Rows)...)
		if len(optionalIn(g, h)) > 0 {
			checkNoSandwich(t, h, g)
		}
	})
	l, ok := impl.OptionalEdges(named(t, "empty", 7), named(t, "complete", 7))
	if !ok || !equalLists(l, edgeList(named(t, "complete", 7))) {
		t.Errorf("OptionalEdges = %v, %t", l, ok)
	}
}

// checkNoSandwich checks what all functions return for two graphs of which the second one lacks edges, or that are not valid.
func checkNoSandwich(t *testing.T, g, h impl.Graph) {
	t.Helper()
	if l, ok := impl.OptionalEdges(g, h); len(l) != 0 || ok {
		t.Errorf("OptionalEdges(%v, %v) = %v, %t", g, h, l, ok)
	}
	for _, name := range []string{"chordal", "perfect", "planar"} {
		checkNoneOf(t, g, h, name)
		if n := impl.CountSandwiches(g, h, name); n != -1 {
			t.Errorf("CountSandwiches(%v, %v, %q) = %d", g, h, name, n)
		}
	}
	for _, x := range []impl.Graph{g, h} {
		if impl.IsSandwich(g, h, x) {
			t.Errorf("IsSandwich(%v, %v, %v) is true", g, h, x)
		}
	}
}

func checkNoneOf(t *testing.T, g, h impl.Graph, name string) {
	t.Helper()
	x, ok := impl.FindSandwich(g, h, name)
	checkNoGraph(t, "FindSandwich", x, ok)
	if l, ok := impl.ForcedEdges(g, h, name); len(l) != 0 || ok {
		t.Errorf("ForcedEdges(%v, %v, %q) = %v, %t", g, h, name, l, ok)
	}
}

func TestSandwiches(t *testing.T) {
	pairs := 0
	eachPair(func(g, h impl.Graph) {
		pairs++
		for i, name := range classNames() {
			if g.Size < 6 || (pairs+i)%3 == 0 {
				checkSandwiches(t, g, h, name)
			}
		}
	})
	for _, pair := range [][2]string{
		{"6: 01 12 23 34 45 50", "6: 01 12 23 34 45 50 02 03 04 13 15 24"}, {"5: 01 12 23 34 40", "5: 01 12 23 34 40 02 13"}, {"7: 01 12 23 34 45 56 60", "7: 01 12 23 34 45 56 60 02 03 04 05"},
		{"4:", "4: 01 02 03 12 13 23"}, {"6: 01 12 34 45", "6: 01 12 34 45 02 23 35 03"},
	} {
		g, h := impl.Graph{Size: int(pair[0][0] - '0'), Rows: rowsFrom(pair[0])}, impl.Graph{Size: int(pair[1][0] - '0'), Rows: rowsFrom(pair[1])}
		for _, name := range classNames() {
			checkSandwiches(t, g, h, name)
		}
	}
}

func TestSandwichesHaveAtMostSixOptionalEdges(t *testing.T) {
	if impl.MaxOptional != 6 {
		t.Error("MaxOptional", impl.MaxOptional)
	}
	g, six, seven := named(t, "empty", 5), graphOf(5, 0b0000111111), graphOf(5, 0b0001111111)
	if n := impl.CountSandwiches(g, six, "perfect"); n != 64 {
		t.Errorf("CountSandwiches = %d", n)
	}
	checkSandwiches(t, g, six, "chordal")
	if l, ok := impl.OptionalEdges(g, seven); len(l) != 7 || !ok {
		t.Errorf("OptionalEdges = %v, %t", l, ok)
	}
	for _, h := range []impl.Graph{seven, named(t, "complete", 5)} {
		for _, name := range append(classNames(), "planar") {
			checkNoneOf(t, g, h, name)
			if n := impl.CountSandwiches(g, h, name); n != -1 {
				t.Errorf("CountSandwiches(%v, %v, %q) = %d", g, h, name, n)
			}
		}
	}
}

func TestSandwichesStayWhenVerticesAreTakenAway(t *testing.T) {
	found := 0
	eachPair(func(g, h impl.Graph) {
		if g.Size > 5 {
			return
		}
		for _, name := range classNames() {
			if _, ok := impl.FindSandwich(g, h, name); !ok {
				continue
			}
			found++
			for set := 1; set < 1<<g.Size; set++ {
				if _, ok := impl.FindSandwich(partOf(g, set), partOf(h, set), name); !ok {
					t.Errorf("there is a sandwich in %q between %v and %v, but none for the part %b", name, g, h, set)
				}
			}
		}
	})
	if found == 0 {
		t.Error("no sandwiches are found")
	}
}

func TestSandwichOfTwoEqualGraphs(t *testing.T) {
	for _, g := range append(classGraphs(), graphFrom(t, "1:"), graphFrom(t, "5: 01 04 12 23 34"), graphFrom(t, "4: 01 12 23")) {
		h, _ := impl.AddAll(g, nil)
		l, ok := impl.OptionalEdges(g, h)
		if len(l) != 0 || !ok || !impl.IsSandwich(g, h, g) {
			t.Errorf("OptionalEdges of %v and itself = %v, %t", g, l, ok)
		}
		for _, name := range classNames() {
			if !isMemberIn(g, name) {
				checkNoneOf(t, g, h, name)
				if n := impl.CountSandwiches(g, h, name); n != 0 {
					t.Errorf("CountSandwiches of %v and itself in %q = %d", g, name, n)
				}
				continue
			}
			x, ok := impl.FindSandwich(g, h, name)
			checkGraph(t, "FindSandwich", x, ok, g, true)
			if l, ok := impl.ForcedEdges(g, h, name); len(l) != 0 || !ok || impl.CountSandwiches(g, h, name) != 1 {
				t.Errorf("ForcedEdges of %v and itself in %q = %v, %t", g, name, l, ok)
			}
		}
	}
}

func TestSandwichFunctionsRefuseInvalidArguments(t *testing.T) {
	g, h := named(t, "path", 4), named(t, "complete", 4)
	for _, name := range noClassNames() {
		checkNoneOf(t, g, h, name)
		checkNoneOf(t, g, g, name)
		if n := impl.CountSandwiches(g, h, name); n != 0 {
			t.Errorf("CountSandwiches of %q = %d", name, n)
		}
	}
	checkNoSandwich(t, named(t, "empty", 3), h)
	checkNoSandwich(t, named(t, "empty", 5), h)
	one := graphFrom(t, "1:")
	for _, bad := range invalidGraphs() {
		checkNoSandwich(t, bad, one)
		checkNoSandwich(t, one, bad)
		checkNoSandwich(t, bad, bad)
		if impl.IsSandwich(one, one, bad) {
			t.Errorf("IsSandwich accepts %v", bad)
		}
	}
}

func TestSandwichFunctionsLeaveArgumentsAlone(t *testing.T) {
	for _, plain := range append(invalidGraphs(), graphOf(4, 0b101101), graphOf(4, 0)) {
		g, checkRows := guardedGraph(plain)
		h, checkOthers := guardedGraph(named(t, "complete", 4))
		impl.IsSandwich(g, h, g)
		impl.CountSandwiches(g, h, "chordal")
		optional, _ := impl.OptionalEdges(g, h)
		x, _ := impl.FindSandwich(g, h, "chordal")
		same, _ := impl.FindSandwich(h, h, "chordal")
		forced, _ := impl.ForcedEdges(g, h, "chordal")
		checkApart(t, "results", append(append(optional, forced...), g.Rows, h.Rows, x.Rows, same.Rows)...)
		checkRows(t, "a function of chapter 31")
		checkOthers(t, "a function of chapter 31")
	}
}

package tests

import (
	"slices"
	"strings"
	"testing"

	"loop.example/g02081/impl"
)

// letters writes the neighbors of v in an order as letters, so that lists are compared as texts.
func letters(g impl.Graph, order []int, v int) string {
	var text strings.Builder
	for _, w := range order {
		if joined(g, v, w) {
			text.WriteByte('b')
		} else {
			text.WriteByte('a')
		}
	}
	return text.String()
}

// searched is an order from start in which a vertex comes next if no other one left is before it.
func searched(g impl.Graph, start int, before func(order []int, v, w int) bool) []int {
	order := []int{start}
	for len(order) < g.Size {
		next := -1
		for v := range g.Size {
			if !slices.Contains(order, v) && (next < 0 || before(order, v, next)) {
				next = v
			}
		}
		order = append(order, next)
	}
	return order
}

func lexSearched(g impl.Graph, start int) []int {
	return searched(g, start, func(order []int, v, w int) bool {
		return letters(g, order, v) > letters(g, order, w)
	})
}

func cardinalitySearched(g impl.Graph, start int) []int {
	return searched(g, start, func(order []int, v, w int) bool {
		return strings.Count(letters(g, order, v), "b") > strings.Count(letters(g, order, w), "b")
	})
}

// breadthSearched appends the new neighbors of each vertex of the list, which grows meanwhile.
func breadthSearched(g impl.Graph, start int) []int {
	order := []int{start}
	for i := 0; i < len(order); i++ {
		for v := range g.Size {
			if joined(g, order[i], v) && !slices.Contains(order, v) {
				order = append(order, v)
			}
		}
	}
	return order
}

func isLexSearched(g impl.Graph, order []int) bool {
	for j := range order {
		for i := 1; i < j; i++ {
			if letters(g, order[:i], order[j]) > letters(g, order[:i], order[i]) {
				return false
			}
		}
	}
	return true
}

// distancesIn is the table of all distances, 99 if there is no way.
func distancesIn(g impl.Graph) [7][7]int {
	var far [7][7]int
	for v := range g.Size {
		for w := range g.Size {
			far[v][w] = 99
			if v == w {
				far[v][w] = 0
			} else if joined(g, v, w) {
				far[v][w] = 1
			}
		}
	}
	for between := range g.Size {
		for v := range g.Size {
			for w := range g.Size {
				far[v][w] = min(far[v][w], far[v][between]+far[between][w])
			}
		}
	}
	return far
}

func TestIsOrder(t *testing.T) {
	for n := 1; n <= 5; n++ {
		g, orders := graphOf(n, 5), 0
		for length := range n + 1 {
			eachList(n, length, func(l []int) bool {
				if impl.IsOrder(g, l) != (length == n) {
					t.Errorf("IsOrder of %d vertices, %v is %t", n, l, impl.IsOrder(g, l))
				}
				orders++
				return true
			})
		}
		for v := range n {
			l := append(members(1<<n-1), v)
			repeated := slices.Clone(l[:n])
			repeated[v] = repeated[(v+1)%n]
			if impl.IsOrder(g, l) || n > 1 && impl.IsOrder(g, repeated) {
				t.Errorf("IsOrder of %d vertices accepts %v or %v", n, l, repeated)
			}
			for _, strange := range append(strangeNumbers(), n, 7, 64) {
				l[v] = strange
				if impl.IsOrder(g, l[:n]) {
					t.Errorf("IsOrder of %d vertices accepts %v", n, l[:n])
				}
				l[v] = v
			}
		}
	}
	for _, g := range invalidGraphs() {
		for n := range 9 {
			if impl.IsOrder(g, members(1<<n-1)) {
				t.Errorf("IsOrder accepts %v", g)
			}
		}
	}
}

func TestSearchOrders(t *testing.T) {
	eachGraph(func(g impl.Graph) {
		for start := range g.Size {
			l, ok := impl.LexOrder(g, start)
			checkList(t, "LexOrder of "+formatted(g), l, ok, lexSearched(g, start), true)
			l, ok = impl.CardinalityOrder(g, start)
			checkList(t, "CardinalityOrder of "+formatted(g), l, ok, cardinalitySearched(g, start), true)
			l, ok = impl.BreadthOrder(g, start)
			checkList(t, "BreadthOrder of "+formatted(g), l, ok, breadthSearched(g, start), true)
		}
	})
}

func TestSearchesHaveEachVertexOnce(t *testing.T) {
	eachGraph(func(g impl.Graph) {
		for start := range g.Size {
			lex, _ := impl.LexOrder(g, start)
			cardinality, _ := impl.CardinalityOrder(g, start)
			if !impl.IsOrder(g, lex) || !impl.IsOrder(g, cardinality) || lex[0] != start || cardinality[0] != start {
				t.Errorf("%v, from %d: %v and %v", g, start, lex, cardinality)
			}
			breadth, _ := impl.BreadthOrder(g, start)
			part := breadthSearched(g, start)
			if slices.Sort(part); len(breadth) != len(part) || breadth[0] != start {
				t.Errorf("%v, from %d: %v", g, start, breadth)
			}
			if slices.Sort(breadth); !slices.Equal(breadth, part) {
				t.Errorf("%v, from %d: %v, want the vertices %v", g, start, breadth, part)
			}
		}
	})
}

func TestSearchesTellApart(t *testing.T) {
	g := graphFrom(t, "6: 01 02 03 14 25 45")
	l, ok := impl.LexOrder(g, 0)
	checkList(t, "LexOrder", l, ok, []int{0, 1, 2, 3, 4, 5}, true)
	l, ok = impl.LexOrder(g, 5)
	checkList(t, "LexOrder", l, ok, []int{5, 2, 4, 0, 1, 3}, true)
	l, ok = impl.CardinalityOrder(g, 5)
	checkList(t, "CardinalityOrder", l, ok, []int{5, 2, 0, 1, 4, 3}, true)
	l, ok = impl.BreadthOrder(g, 5)
	checkList(t, "BreadthOrder", l, ok, []int{5, 2, 4, 0, 1, 3}, true)
	l, ok = impl.BreadthOrder(g, 3)
	checkList(t, "BreadthOrder", l, ok, []int{3, 0, 1, 2, 4, 5}, true)
}

func TestSearchesRefuseStrangeStarts(t *testing.T) {
	check := func(g impl.Graph, start int) {
		l, ok := impl.LexOrder(g, start)
		checkNoList(t, "LexOrder", l, ok)
		l, ok = impl.CardinalityOrder(g, start)
		checkNoList(t, "CardinalityOrder", l, ok)
		l, ok = impl.BreadthOrder(g, start)
		checkNoList(t, "BreadthOrder", l, ok)
	}
	for n := 1; n <= 7; n++ {
		for _, start := range append(strangeNumbers(), n, 7, 64) {
			check(graphOf(n, 1), start)
		}
	}
	for _, g := range invalidGraphs() {
		for start := -1; start < 8; start++ {
			check(g, start)
		}
	}
}

func TestIsLexOrder(t *testing.T) {
	eachPartGraph(func(g impl.Graph) {
		lexOrders := 0
		eachList(g.Size, g.Size, func(l []int) bool {
			if impl.IsLexOrder(g, l) != isLexSearched(g, l) {
				t.Errorf("IsLexOrder(%v, %v) is %t", g, l, impl.IsLexOrder(g, l))
			}
			if impl.IsLexOrder(g, l) {
				lexOrders++
			}
			return true
		})
		if lexOrders < g.Size {
			t.Errorf("%v has %d lexicographic orders", g, lexOrders)
		}
		for start := range g.Size {
			if l, _ := impl.LexOrder(g, start); !impl.IsLexOrder(g, l) {
				t.Errorf("LexOrder(%v, %d) = %v is none", g, start, l)
			}
		}
	})
}

func TestIsLexOrderRefusesWhatIsNoOrder(t *testing.T) {
	g := graphFrom(t, "3: 01 12")
	for _, l := range [][]int{nil, {0}, {0, 1}, {0, 1, 1}, {0, 1, 3}, {0, 1, -1}, {0, 1, 2, 0}, {0, 1, 2, 3}, {0, 2, 1}} {
		if impl.IsLexOrder(g, l) {
			t.Errorf("IsLexOrder accepts %v", l)
		}
	}
	for _, g := range invalidGraphs() {
		for n := range 9 {
			if impl.IsLexOrder(g, members(1<<n-1)) {
				t.Errorf("IsLexOrder accepts %v", g)
			}
		}
	}
}

func TestDistanceOfAndIsConnected(t *testing.T) {
	eachGraph(func(g impl.Graph) {
		far, connected := distancesIn(g), true
		for v := range g.Size {
			for w := range g.Size {
				want := far[v][w]
				if want >= 99 {
					want, connected = -1, false
				}
				if got := impl.DistanceOf(g, v, w); got != want {
					t.Errorf("DistanceOf(%v, %d, %d) = %d, want %d", g, v, w, got, want)
				}
			}
		}
		if impl.IsConnected(g) != connected {
			t.Errorf("IsConnected(%v) is %t", g, impl.IsConnected(g))
		}
	})
	if d := impl.DistanceOf(named(t, "path", 7), 6, 0); d != 6 {
		t.Errorf("DistanceOf the ends of a path = %d", d)
	}
}

func TestDistanceOfRefusesStrangeVertices(t *testing.T) {
	g := graphFrom(t, "3: 01 12")
	for _, v := range append(strangeNumbers(), 3, 7, 64) {
		if impl.DistanceOf(g, v, 0) != -1 || impl.DistanceOf(g, 0, v) != -1 || impl.DistanceOf(g, v, v) != -1 {
			t.Errorf("DistanceOf accepts the vertex %d", v)
		}
	}
	for _, g := range invalidGraphs() {
		if impl.DistanceOf(g, 0, 0) != -1 || impl.DistanceOf(g, 0, 1) != -1 || impl.IsConnected(g) {
			t.Errorf("DistanceOf or IsConnected accepts %v", g)
		}
	}
}

func TestGraphOfSeveralParts(t *testing.T) {
	g := graphFrom(t, "7: 03 14 25 46")
	l, ok := impl.LexOrder(g, 4)
	checkList(t, "LexOrder", l, ok, []int{4, 1, 6, 0, 3, 2, 5}, true)
	l, ok = impl.CardinalityOrder(g, 4)
	checkList(t, "CardinalityOrder", l, ok, []int{4, 1, 6, 0, 3, 2, 5}, true)
	for start, want := range [][]int{{0, 3}, {1, 4, 6}, {2, 5}, {3, 0}, {4, 1, 6}, {5, 2}, {6, 4, 1}} {
		l, ok := impl.BreadthOrder(g, start)
		checkList(t, "BreadthOrder", l, ok, want, true)
	}
	if impl.IsConnected(g) || impl.DistanceOf(g, 0, 6) != -1 || impl.DistanceOf(g, 1, 6) != 2 {
		t.Error("the parts hang together")
	}
	if !impl.IsLexOrder(g, []int{4, 6, 1, 2, 5, 0, 3}) || impl.IsLexOrder(g, []int{4, 6, 2, 1, 5, 0, 3}) {
		t.Error("a lexicographic order leaves a part before its end, or none is seen")
	}
}

func TestSearchFunctionsLeaveArgumentsAlone(t *testing.T) {
	for _, plain := range append(invalidGraphs(), graphOf(4, 0b101101), graphOf(4, 1), graphOf(7, 12345)) {
		g, checkRows := guardedGraph(plain)
		l, checkNumbers := guarded([]int{3, 1, 2, 0})
		impl.IsOrder(g, l)
		impl.IsLexOrder(g, l)
		impl.DistanceOf(g, 0, 3)
		impl.IsConnected(g)
		a, _ := impl.LexOrder(g, 0)
		b, _ := impl.CardinalityOrder(g, 0)
		c, _ := impl.BreadthOrder(g, 0)
		checkApart(t, "orders", g.Rows, a, b, c, l)
		checkRows(t, "a function of chapter 5")
		checkNumbers(t, "a function of chapter 5")
	}
}

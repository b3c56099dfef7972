package tests

import (
	"slices"
	"testing"

	"loop.example/g02081/impl"
)

// bandIn looks at the places of the ends of all edges.
func bandIn(g impl.Graph, order []int) int {
	band := 0
	for _, edge := range edgeList(g) {
		i, j := slices.Index(order, edge[0]), slices.Index(order, edge[1])
		band = max(band, i-j, j-i)
	}
	return band
}

func cutOfOrder(g impl.Graph, order []int) int {
	most := 0
	for i := range order {
		n := 0
		for _, v := range order[:i] {
			outside := false
			for _, w := range order[i:] {
				outside = outside || joined(g, v, w)
			}
			if outside {
				n++
			}
		}
		most = max(most, n)
	}
	return most
}

// widthIn counts later neighbors, those by new edges included.
func widthIn(g impl.Graph, order []int) int {
	h := impl.Graph{Size: g.Size, Rows: slices.Clone(g.Rows)}
	for _, edge := range filled(g, order) {
		h.Rows[edge[0]] |= 1 << edge[1]
		h.Rows[edge[1]] |= 1 << edge[0]
	}
	width := 0
	for _, v := range order {
		width = max(width, len(members(laterIn(h, order, v))))
	}
	return width
}

// leastIn returns the least number that an order has, and the first order that has it.
func leastIn(g impl.Graph, number func(impl.Graph, []int) int) (int, []int) {
	least, first := 99, []int{}
	eachList(g.Size, g.Size, func(order []int) bool {
		if n := number(g, order); n < least {
			least, first = n, order
		}
		return true
	})
	return least, first
}

func checkWidths(t *testing.T, g impl.Graph) {
	t.Helper()
	band, order := leastIn(g, bandIn)
	path, _ := leastIn(g, cutOfOrder)
	tree, _ := leastIn(g, widthIn)
	got, ok := impl.BestBand(g)
	checkList(t, "BestBand of "+formatted(g), got, ok, order, true)
	if impl.BandwidthOf(g) != band || impl.PathwidthOf(g) != path || impl.TreewidthOf(g) != tree {
		t.Errorf("%v has the widths %d, %d, %d, want %d, %d, %d", g, impl.BandwidthOf(g), impl.PathwidthOf(g), impl.TreewidthOf(g), band, path, tree)
	}
	if tree > path || path > band {
		t.Errorf("%v: expected widths %d, %d, %d", g, tree, path, band)
	}
}

func TestWidthsAreTheLeastOfAllOrders(t *testing.T) {
	for n := 1; n <= 4; n++ {
		eachGraphOf(n, func(g impl.Graph) { checkWidths(t, g) })
	}
	for bits := 0; bits < 1<<10; bits += 3 {
		checkWidths(t, graphOf(5, bits))
	}
	for bits := 9; bits < 1<<15; bits += 919 {
		checkWidths(t, graphOf(6, bits))
	}
	for _, text := range []string{"7: 01 02 03 14 25 36", "7: 01 12 23 34 45 56 60", "7: 03 31 14 42 25 56 60", "7: 01 02 03 04 05 06 12 34 56", "7: 03 04 05 06 13 14 15 16 23 24 25 26"} {
		checkWidths(t, impl.Graph{Size: 7, Rows: rowsFrom(text)})
	}
}

func TestNumbersOfOrders(t *testing.T) {
	check := func(g impl.Graph) {
		eachList(g.Size, g.Size, func(order []int) bool {
			if got, want := impl.CutOf(g, order), cutOfOrder(g, order); got != want {
				t.Errorf("CutOf(%v, %v) = %d, want %d", g, order, got, want)
			}
			if got, want := impl.WidthOfOrder(g, order), widthIn(g, order); got != want {
				t.Errorf("WidthOfOrder(%v, %v) = %d, want %d", g, order, got, want)
			}
			return true
		})
	}
	for n := 1; n <= 4; n++ {
		eachGraphOf(n, check)
	}
	for bits := 0; bits < 1<<10; bits += 31 {
		check(graphOf(5, bits))
	}
	g := impl.Graph{Size: 7, Rows: rowsFrom("7: 01 12 23 34 45 56 60 03")}
	for _, c := range []struct {
		order      []int
		cut, width int
	}{{[]int{0, 1, 2, 3, 4, 5, 6}, 2, 3}, {[]int{0, 2, 4, 6, 1, 3, 5}, 4, 3}, {[]int{1, 2, 4, 5, 6, 0, 3}, 4, 2}, {[]int{3, 0, 5, 1, 6, 2, 4}, 4, 4}} {
		if cut, width := impl.CutOf(g, c.order), impl.WidthOfOrder(g, c.order); cut != cutOfOrder(g, c.order) || width != widthIn(g, c.order) || cut != c.cut || width != c.width {
			t.Errorf("CutOf(%v) = %d, WidthOfOrder = %d", c.order, cut, width)
		}
	}
}

func TestWidthsAreOneLessThanTheLargestClique(t *testing.T) {
	chordal, interval, proper, others := 0, 0, 0, 0
	check := func(g impl.Graph) {
		clique := impl.CliqueNumber(g)
		tree, path, band := impl.TreewidthOf(g), impl.PathwidthOf(g), impl.BandwidthOf(g)
		if tree < clique-1 || path < tree || band < path {
			t.Errorf("%v has a clique of %d and the widths %d, %d, %d", g, clique, tree, path, band)
		}
		if impl.IsChordal(g) {
			chordal++
			if tree != clique-1 {
				t.Errorf("TreewidthOf(%v) = %d, the largest clique has %d", g, tree, clique)
			}
		} else if tree == clique-1 {
			others++
		}
		if impl.IsInterval(g) {
			interval++
			if path != clique-1 {
				t.Errorf("PathwidthOf(%v) = %d, the largest clique has %d", g, path, clique)
			}
		}
		if impl.IsProper(g) {
			proper++
			if band != clique-1 {
				t.Errorf("BandwidthOf(%v) = %d, the largest clique has %d", g, band, clique)
			}
		}
	}
	eachGraph(check)
	for bits := 3; bits < 1<<15; bits += 23 {
		check(graphOf(6, bits))
	}
	if proper == 0 || interval <= proper || chordal <= interval || others == 0 {
		t.Errorf("%d, %d and %d graphs of the classes, %d others", proper, interval, chordal, others)
	}
}

func TestWidthsOfOneVertex(t *testing.T) {
	g := graphFrom(t, "1:")
	order, ok := impl.BestBand(g)
	checkList(t, "BestBand", order, ok, []int{0}, true)
	if impl.BandwidthOf(g) != 0 || impl.PathwidthOf(g) != 0 || impl.TreewidthOf(g) != 0 || impl.CutOf(g, order) != 0 || impl.WidthOfOrder(g, order) != 0 {
		t.Error("one vertex has a width")
	}
	for n := 2; n <= 7; n++ {
		empty, complete := named(t, "empty", n), named(t, "complete", n)
		order, ok := impl.BestBand(empty)
		checkList(t, "BestBand", order, ok, members(1<<n-1), true)
		if impl.BandwidthOf(empty) != 0 || impl.PathwidthOf(empty) != 0 || impl.TreewidthOf(empty) != 0 {
			t.Errorf("%d vertices without edges have a width", n)
		}
		if impl.BandwidthOf(complete) != n-1 || impl.PathwidthOf(complete) != n-1 || impl.TreewidthOf(complete) != n-1 {
			t.Errorf("%d neighbors of each other have other widths", n)
		}
	}
}

func TestWidthFunctionsRefuseInvalidArguments(t *testing.T) {
	g := named(t, "path", 3)
	for _, order := range noOrders() {
		if impl.CutOf(g, order) != -1 || impl.WidthOfOrder(g, order) != -1 {
			t.Errorf("CutOf(%v) = %d, WidthOfOrder = %d", order, impl.CutOf(g, order), impl.WidthOfOrder(g, order))
		}
	}
	for _, v := range strangeNumbers() {
		if order := []int{0, 1, v}; impl.CutOf(g, order) != -1 || impl.WidthOfOrder(g, order) != -1 {
			t.Errorf("an order with %d is accepted", v)
		}
	}
	for _, g := range invalidGraphs() {
		order, ok := impl.BestBand(g)
		checkNoList(t, "BestBand", order, ok)
		if impl.BandwidthOf(g) != -1 || impl.PathwidthOf(g) != -1 || impl.TreewidthOf(g) != -1 {
			t.Errorf("%v has widths", g)
		}
		for n := range 9 {
			order := members(1<<n - 1)
			if impl.CutOf(g, order) != -1 || impl.WidthOfOrder(g, order) != -1 {
				t.Errorf("%v is accepted with the order %v", g, order)
			}
		}
	}
}

func TestWidthFunctionsLeaveArgumentsAlone(t *testing.T) {
	for _, plain := range append(invalidGraphs(), graphOf(4, 0b101101), graphOf(4, 0), graphOf(7, 12345)) {
		g, checkRows := guardedGraph(plain)
		l, checkNumbers := guarded([]int{3, 1, 2, 0})
		impl.BandwidthOf(g)
		impl.PathwidthOf(g)
		impl.TreewidthOf(g)
		impl.CutOf(g, l)
		impl.WidthOfOrder(g, l)
		order, _ := impl.BestBand(g)
		checkApart(t, "results", g.Rows, l, order)
		checkRows(t, "a function of chapter 27")
		checkNumbers(t, "a function of chapter 27")
	}
}

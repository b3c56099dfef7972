package tests

import (
	"slices"
	"testing"

	"loop.example/g02081/impl"
)

// addedIn adds edges one after the other, each one between two vertices that are no neighbors yet.
func addedIn(g impl.Graph, l [][]int) (impl.Graph, bool) {
	h := impl.Graph{Size: g.Size, Rows: slices.Clone(g.Rows)}
	for _, edge := range l {
		if len(edge) != 2 || !areDifferentIn(g, edge) || joined(h, edge[0], edge[1]) {
			return impl.Graph{}, false
		}
		h.Rows[edge[0]] |= 1 << edge[1]
		h.Rows[edge[1]] |= 1 << edge[0]
	}
	return h, true
}

func isChordalWith(g impl.Graph, l [][]int) bool {
	h, ok := addedIn(g, l)
	return ok && !hasHole(h)
}

func allBut(l [][]int, i int) [][]int {
	return append(slices.Clone(l[:i]), l[i+1:]...)
}

func minimalFillIn(g impl.Graph) [][]int {
	order := lexSearched(g, 0)
	slices.Reverse(order)
	fill := filled(g, order)
	for again := true; again; {
		again = false
		for i := len(fill) - 1; i >= 0; i-- {
			if isChordalWith(g, allBut(fill, i)) {
				fill, again = allBut(fill, i), true
			}
		}
	}
	return fill
}

func isMinimalFillIn(g impl.Graph, l [][]int) bool {
	if !isChordalWith(g, l) {
		return false
	}
	for i := range l {
		if isChordalWith(g, allBut(l, i)) {
			return false
		}
	}
	return true
}

// missingEdges lists the pairs of vertices that are no neighbors.
func missingEdges(g impl.Graph) [][]int {
	return edgeList(without(g))
}

// fewestFillIn is the least number of further edges with which a graph has no hole.
func fewestFillIn(g impl.Graph) int {
	missing := missingEdges(g)
	fewest := len(missing)
	for set := range 1 << len(missing) {
		var l [][]int
		for i, edge := range missing {
			if set>>i&1 == 1 {
				l = append(l, edge)
			}
		}
		if len(l) < fewest && isChordalWith(g, l) {
			fewest = len(l)
		}
	}
	return fewest
}

func fewestDeletionsIn(g impl.Graph, name string) (int, bool) {
	best, found := 0, false
	for set := range 1<<g.Size - 1 {
		fewer := !found || len(members(set)) < len(members(best))
		if fewer && isMemberIn(partOf(g, (1<<g.Size-1)&^set), name) {
			best, found = set, true
		}
	}
	return best, found
}

// fillGraphs have several holes, or holes whose first fill has edges to spare.
func fillGraphs() []impl.Graph {
	var graphs []impl.Graph
	for _, text := range []string{
		"6: 01 12 23 34 45 50", "7: 01 12 23 34 45 56 60", "6: 03 04 05 13 14 15 23 24 25", "7: 03 04 05 06 13 14 15 16 23 24 25 26", "7: 06 61 15 52 24 43 30", "7: 01 12 23 30 34 45 56 63", "7: 02 24 46 61 13 35 50 03",
		"6: 01 12 20 34 45 53 03 14 25", "7: 01 12 23 34 45 50 06 26 46", "7: 05 15 25 06 16 36 34 24",
	} {
		graphs = append(graphs, impl.Graph{Size: int(text[0] - '0'), Rows: rowsFrom(text)})
	}
	return graphs
}

func TestAddAll(t *testing.T) {
	for n := 1; n <= 3; n++ {
		eachGraphOf(n, func(g impl.Graph) {
			var pairs [][]int
			eachNumbers(2, -1, n, func(pair []int) { pairs = append(pairs, pair) })
			for _, a := range pairs {
				for _, l := range [][][]int{{a}, {a, {0, 1}}, {{2, 1}, a}, {a, a}, {a, {a[1], a[0]}}, {a, nil}, {{}, a}, {a, {0, 1, 2}}, {{0}, a}} {
					want, wantOk := addedIn(g, l)
					h, ok := impl.AddAll(g, l)
					checkGraph(t, "AddAll", h, ok, want, wantOk)
				}
			}
			h, ok := impl.AddAll(g, nil)
			checkGraph(t, "AddAll", h, ok, g, true)
		})
	}
	h, ok := impl.AddAll(named(t, "empty", 7), edgeList(named(t, "complete", 7)))
	checkGraph(t, "AddAll", h, ok, named(t, "complete", 7), true)
	for _, v := range append(strangeNumbers(), 7, 64) {
		for _, edge := range [][]int{{0, v}, {v, 0}, {v, v}} {
			h, ok := impl.AddAll(named(t, "empty", 7), [][]int{{0, 1}, edge})
			checkNoGraph(t, "AddAll", h, ok)
		}
	}
}

func TestIsCompletion(t *testing.T) {
	for n := 1; n <= 4; n++ {
		eachGraphOf(n, func(g impl.Graph) {
			for m := 1; m <= 4; m++ {
				eachGraphOf(m, func(h impl.Graph) {
					want := m == n && !hasHole(h)
					for v := 0; want && v < n; v++ {
						want = g.Rows[v]&^h.Rows[v] == 0
					}
					if impl.IsCompletion(g, h) != want {
						t.Errorf("IsCompletion(%v, %v) is %t", g, h, !want)
					}
				})
			}
		})
	}
}

func TestMinimalFill(t *testing.T) {
	needed := 0
	check := func(g impl.Graph) {
		want := minimalFillIn(g)
		l, ok := impl.MinimalFill(g)
		if !ok || !equalLists(l, want) {
			t.Errorf("MinimalFill(%v) = %v, %t, want %v", g, l, ok, want)
		}
		if !isMinimalFillIn(g, l) || !impl.IsMinimalFill(g, l) || len(l) == 0 == hasHole(g) {
			t.Errorf("MinimalFill(%v) = %v is none", g, l)
		}
		h, ok := impl.AddAll(g, l)
		if !ok || !impl.IsChordal(h) || hasHole(h) || !impl.IsCompletion(g, h) {
			t.Errorf("with %v, %v becomes %v", l, g, h)
		}
		needed += len(l)
		checkApart(t, "MinimalFill", append(l, g.Rows)...)
	}
	eachGraph(check)
	for bits := 3; bits < 1<<15; bits += 41 {
		check(graphOf(6, bits))
	}
	for _, g := range fillGraphs() {
		check(g)
	}
	if needed == 0 {
		t.Error("no graph needs a fill")
	}
}

func TestMinimalFillLeavesOutTheLastEdgesFirst(t *testing.T) {
	spared := 0
	for bits := 1; bits < 1<<21; bits += 2503 {
		g := graphOf(7, bits)
		order := lexSearched(g, 0)
		slices.Reverse(order)
		want := minimalFillIn(g)
		l, ok := impl.MinimalFill(g)
		if !ok || !equalLists(l, want) {
			t.Errorf("MinimalFill(%v) = %v, %t, want %v", g, l, ok, want)
		}
		spared += len(filled(g, order)) - len(l)
	}
	if spared == 0 {
		t.Error("no edge is left out")
	}
}

func TestMinimalFillGoesThroughItsEdgesAgain(t *testing.T) {
	for text, want := range map[string][][]int{
		"7: 01 02 03 04 15 24 34 35":             {{1, 3}},
		"7: 01 02 03 05 14 25 34 35":             {{1, 3}},
		"7: 01 02 03 04 05 13 15 16 24 25 26 34": {{1, 2}, {1, 4}},
		"7: 01 02 03 04 06 13 15 16 24 25 26 34": {{1, 2}, {1, 4}},
	} {
		g := graphFrom(t, text)
		l, ok := impl.MinimalFill(g)
		if !ok || !equalLists(l, want) || !equalLists(minimalFillIn(g), want) {
			t.Errorf("MinimalFill of %q = %v, %t, want %v", text, l, ok, want)
		}
	}
}

func TestIsMinimalFill(t *testing.T) {
	check := func(g impl.Graph, l [][]int) {
		if want := isMinimalFillIn(g, l); impl.IsMinimalFill(g, l) != want {
			t.Errorf("IsMinimalFill(%v, %v) is %t", g, l, !want)
		}
	}
	for _, g := range append(fillGraphs()[:1], graphOf(4, 0b101101), graphOf(4, 0b110011), graphOf(4, 0b011110), graphOf(5, 0b1001010011), graphOf(3, 5)) {
		missing := missingEdges(g)
		for set := range 1 << len(missing) {
			var l [][]int
			for i, edge := range missing {
				if set>>i&1 == 1 {
					l = append(l, edge)
				}
			}
			check(g, l)
			slices.Reverse(l)
			check(g, l)
			if len(l) > 0 {
				check(g, append(slices.Clone(l[:len(l)-1]), []int{l[len(l)-1][1], l[len(l)-1][0]}))
				check(g, append(slices.Clone(l), l[0]))
			}
			for _, edge := range [][]int{nil, {0}, {0, 0}, {0, g.Size}, {-1, 0}, {0, 64}, {0, 1, 2}, edgeList(g)[0]} {
				check(g, append(slices.Clone(l), edge))
			}
		}
	}
	for _, v := range strangeNumbers() {
		if impl.IsMinimalFill(named(t, "cycle", 4), [][]int{{0, v}}) || impl.IsMinimalFill(named(t, "path", 4), [][]int{{v, 0}}) {
			t.Errorf("IsMinimalFill accepts %d", v)
		}
	}
}

func TestFewestFill(t *testing.T) {
	eachPartGraph(func(g impl.Graph) {
		want := -1
		if g.Size <= 5 {
			want = fewestFillIn(g)
		}
		if got := impl.FewestFill(g); got != want {
			t.Errorf("FewestFill(%v) = %d, want %d", g, got, want)
		}
	})
	for text, want := range map[string]int{"5: 01 04 12 23 34": 2, "5: 02 03 04 12 13 14": 1, "5: 01 02 03 14 24 34": 1, "5: 01 02 03 04 12 14 23 34": 1, "5:": 0, "1:": 0, "6:": -1, "7: 01": -1} {
		if got := impl.FewestFill(graphFrom(t, text)); got != want {
			t.Errorf("FewestFill of %q = %d, want %d", text, got, want)
		}
	}
}

func TestFewestDeletions(t *testing.T) {
	check := func(g impl.Graph) {
		for _, name := range classNames() {
			want, wantOk := fewestDeletionsIn(g, name)
			set, ok := impl.FewestDeletions(g, name)
			if set != want || ok != wantOk {
				t.Errorf("FewestDeletions(%v, %q) = %d, %t, want %d, %t", g, name, set, ok, want, wantOk)
			}
			if got := impl.LargestInside(g, name); got != g.Size-len(members(want)) {
				t.Errorf("LargestInside(%v, %q) = %d, without %d", g, name, got, want)
			}
		}
	}
	eachPartGraph(check)
	for _, g := range fillGraphs()[:5] {
		check(g)
	}
}

func TestGraphThatIsInTheClass(t *testing.T) {
	check := func(g impl.Graph) {
		for _, name := range classNames() {
			if !isMemberIn(g, name) {
				continue
			}
			if set, ok := impl.FewestDeletions(g, name); set != 0 || !ok || impl.LargestInside(g, name) != g.Size {
				t.Errorf("FewestDeletions(%v, %q) = %d, %t", g, name, set, ok)
			}
		}
		if hasHole(g) {
			return
		}
		if l, ok := impl.MinimalFill(g); len(l) != 0 || !ok || !impl.IsMinimalFill(g, nil) || !impl.IsMinimalFill(g, [][]int{}) || !impl.IsCompletion(g, g) {
			t.Errorf("MinimalFill(%v) = %v, %t", g, l, ok)
		}
		if g.Size <= 5 && impl.FewestFill(g) != 0 {
			t.Errorf("FewestFill(%v) = %d", g, impl.FewestFill(g))
		}
		for _, edge := range missingEdges(g) {
			if impl.IsMinimalFill(g, [][]int{edge}) {
				t.Errorf("IsMinimalFill(%v, %v) is true", g, edge)
			}
		}
	}
	eachPartGraph(check)
	for n := 1; n <= 7; n++ {
		check(named(t, "path", n))
		check(named(t, "star", n))
		check(named(t, "complete", n))
		check(named(t, "empty", n))
	}
}

func TestChangeFunctionsRefuseInvalidArguments(t *testing.T) {
	for _, name := range noClassNames() {
		g := named(t, "path", 4)
		if set, ok := impl.FewestDeletions(g, name); set != 0 || ok || impl.LargestInside(g, name) != -1 {
			t.Errorf("FewestDeletions to %q = %d, %t", name, set, ok)
		}
	}
	one := graphFrom(t, "1:")
	for _, g := range invalidGraphs() {
		if l, ok := impl.MinimalFill(g); len(l) != 0 || ok || impl.FewestFill(g) != -1 {
			t.Errorf("MinimalFill(%v) = %v, %t", g, l, ok)
		}
		for _, name := range append(classNames(), "planar") {
			if set, ok := impl.FewestDeletions(g, name); set != 0 || ok || impl.LargestInside(g, name) != -1 {
				t.Errorf("FewestDeletions(%v, %q) = %d, %t", g, name, set, ok)
			}
		}
		for _, l := range [][][]int{nil, {{0, 1}}, {nil}} {
			h, ok := impl.AddAll(g, l)
			checkNoGraph(t, "AddAll", h, ok)
			if impl.IsMinimalFill(g, l) {
				t.Errorf("IsMinimalFill(%v, %v) is true", g, l)
			}
		}
		if impl.IsCompletion(g, one) || impl.IsCompletion(one, g) || impl.IsCompletion(g, g) {
			t.Errorf("IsCompletion accepts %v", g)
		}
	}
}

func TestChangeFunctionsLeaveArgumentsAlone(t *testing.T) {
	for _, plain := range append(invalidGraphs(), graphOf(4, 0b101101), graphOf(5, 0b1001010011), graphOf(7, 12345)) {
		g, checkRows := guardedGraph(plain)
		h, checkOthers := guardedGraph(named(t, "complete", 4))
		a, checkFirst := guarded([]int{0, 2})
		b, checkSecond := guarded([]int{1, 3})
		l := [][]int{a, b, nil, nil}[:2]
		impl.IsCompletion(g, h)
		impl.IsMinimalFill(g, l)
		impl.FewestFill(g)
		impl.FewestDeletions(g, "chordal")
		impl.LargestInside(g, "perfect")
		fill, _ := impl.MinimalFill(g)
		larger, _ := impl.AddAll(g, l)
		checkApart(t, "results", append(fill, g.Rows, h.Rows, a, b, larger.Rows)...)
		checkRows(t, "a function of chapter 30")
		checkOthers(t, "a function of chapter 30")
		checkFirst(t, "a function of chapter 30")
		checkSecond(t, "a function of chapter 30")
		if whole := l[:4]; whole[2] != nil || whole[3] != nil || &whole[0][0] != &a[0] || &whole[1][0] != &b[0] {
			t.Errorf("the list of edges becomes %v", whole)
		}
	}
}

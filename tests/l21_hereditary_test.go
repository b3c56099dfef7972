package tests

import (
	"math"
	"slices"
	"strconv"
	"strings"
	"testing"

	"loop.example/g02081/impl"
)

// pruneIn looks at the kinds one after the other, and at all anchors for each.
func pruneIn(g impl.Graph, left, v int) (impl.Prune, bool) {
	others := left &^ (1 << v)
	if g.Rows[v]&left == 0 {
		return impl.Prune{Vertex: v, Kind: 0, Anchor: -1}, true
	}
	for kind := 1; kind <= 3; kind++ {
		for _, w := range members(others) {
			fits := joined(g, v, w) == (kind != 2)
			for _, u := range members(others &^ (1 << w)) {
				fits = fits && (kind == 1 && !joined(g, v, u) || kind != 1 && joined(g, v, u) == joined(g, w, u))
			}
			if fits {
				return impl.Prune{Vertex: v, Kind: kind, Anchor: w}, true
			}
		}
	}
	return impl.Prune{}, false
}

func prunedIn(g impl.Graph) ([]impl.Prune, bool) {
	var prunes []impl.Prune
	left := 1<<g.Size - 1
	for v := 0; v < g.Size; v++ {
		if left>>v&1 == 0 {
			continue
		}
		if p, ok := pruneIn(g, left, v); ok {
			prunes = append(prunes, p)
			left &^= 1 << v
			v = -1
		}
	}
	if left != 0 {
		return nil, false
	}
	return prunes, true
}

// prunesFrom takes the vertex, the kind and the anchor of each prune in turn.
func prunesFrom(numbers ...int) []impl.Prune {
	var l []impl.Prune
	for i := 0; i < len(numbers); i += 3 {
		l = append(l, impl.Prune{Vertex: numbers[i], Kind: numbers[i+1], Anchor: numbers[i+2]})
	}
	return l
}

func prunesText(l []impl.Prune) string {
	var texts []string
	for _, p := range l {
		text := strconv.Itoa(p.Vertex) + []string{".", "-", "=", "#"}[p.Kind]
		if p.Anchor != -1 {
			text += strconv.Itoa(p.Anchor)
		}
		texts = append(texts, text)
	}
	return strings.Join(texts, " ")
}

// unpruned joins each vertex, from the last one on, as its prune says.
func unpruned(l []impl.Prune) (impl.Graph, bool) {
	n := len(l)
	g := impl.Graph{Size: n, Rows: make([]int, n)}
	var there []int
	for i := n - 1; i >= 0; i-- {
		p := l[i]
		if p.Vertex < 0 || p.Vertex >= n || slices.Contains(there, p.Vertex) || p.Kind < 0 || p.Kind > 3 {
			return impl.Graph{}, false
		}
		if p.Kind == 0 && p.Anchor != -1 || p.Kind > 0 && !slices.Contains(there, p.Anchor) {
			return impl.Graph{}, false
		}
		for _, w := range there {
			near := p.Kind == 1 && w == p.Anchor || p.Kind == 3 && w == p.Anchor || p.Kind >= 2 && w != p.Anchor && joined(g, w, p.Anchor)
			if near {
				g.Rows[w] |= 1 << p.Vertex
				g.Rows[p.Vertex] |= 1 << w
			}
		}
		there = append(there, p.Vertex)
	}
	return g, n >= 1 && n <= 7
}

// within takes away all edges that do not lie in a set.
func within(g impl.Graph, set int) impl.Graph {
	h := impl.Graph{Size: g.Size, Rows: make([]int, g.Size)}
	for _, v := range members(set) {
		h.Rows[v] = g.Rows[v] & set
	}
	return h
}

func keepsIn(g impl.Graph, set int) bool {
	far, there := distancesIn(g), distancesIn(within(g, set))
	for _, v := range members(set) {
		for _, w := range members(set) {
			if there[v][w] == 99 || there[v][w] != far[v][w] {
				return false
			}
		}
	}
	return set != 0
}

func stretchedIn(g impl.Graph) (int, bool) {
	for set := range 1 << g.Size {
		if len(partsIn(g, set)) == 1 && !keepsIn(g, set) {
			return set, true
		}
	}
	return 0, false
}

func checkNoPrunes(t *testing.T, g impl.Graph) {
	t.Helper()
	l, ok := impl.PruneOrder(g)
	if len(l) != 0 || ok || impl.IsHereditary(g) {
		t.Errorf("PruneOrder(%v) = %v, %t", g, l, ok)
	}
}

func TestHereditaryGraphsArePutTogetherFromTheirPrunes(t *testing.T) {
	check := func(g impl.Graph) {
		want, wantOk := prunedIn(g)
		if !wantOk {
			checkNoPrunes(t, g)
			return
		}
		l, ok := impl.PruneOrder(g)
		if !ok || !slices.Equal(l, want) || !impl.IsHereditary(g) {
			t.Errorf("PruneOrder(%v) = %v, %t, want %v", g, l, ok, want)
		}
		if text := impl.FormatPrunes(l); text != prunesText(want) {
			t.Errorf("FormatPrunes(%v) = %q", l, text)
		}
		back, ok := impl.GraphOfPrunes(l)
		checkGraph(t, "GraphOfPrunes of "+prunesText(l), back, ok, g, true)
	}
	eachGraph(check)
	for bits := 0; bits < 1<<15; bits += 13 {
		check(graphOf(6, bits))
	}
}

func TestPrunesHaveTheFirstKindAndTheLeastAnchor(t *testing.T) {
	for text, want := range map[string]string{
		"1:": "0.", "2:": "0. 1.", "2: 01": "0-1 1.", "3:": "0. 1. 2.", "3: 01 02 12": "0#1 1-2 2.", "3: 02 12": "0-2 1-2 2.", "3: 12": "0. 1-2 2.",
		"4: 02 03 12 13": "0=1 2-1 1-3 3.", "4: 02 03 12 13 23": "0=1 1#2 2-3 3.", "4: 01 02 03 12 13": "0#1 2-1 1-3 3.", "4: 01 02 03 12 13 23": "0#1 1#2 2-3 3.",
		"5: 01 04 12 23 24 34": "", "5: 01 12 13 14 24 34": "0-1 1#4 2-4 3-4 4.", "6: 03 04 05 13 14 15 23 24 25": "0=1 1=2 3-2 4-2 2-5 5.",
		"7: 01 06 12 23 34 45 56": "", "7: 02 12 13 23 34 45 46 56": "0-2 1#2 2-3 3-4 4#5 5-6 6.",
	} {
		l, ok := impl.PruneOrder(graphFrom(t, text))
		if got := impl.FormatPrunes(l); got != want || ok != (want != "") {
			t.Errorf("PruneOrder of %q = %q, %t, want %q", text, got, ok, want)
		}
	}
}

func TestHereditaryMeansThatNoSetIsStretched(t *testing.T) {
	hereditary := 0
	check := func(g impl.Graph) {
		want, wantOk := stretchedIn(g)
		set, ok := impl.FindStretched(g)
		if set != want || ok != wantOk || impl.IsHereditary(g) == wantOk {
			t.Errorf("FindStretched(%v) = %d, %t, want %d, %t", g, set, ok, want, wantOk)
		}
		if !ok {
			hereditary++
		}
	}
	eachGraph(check)
	for bits := 0; bits < 1<<15; bits += 29 {
		check(graphOf(6, bits))
	}
	if hereditary < 500 {
		t.Errorf("%d graphs without stretched sets", hereditary)
	}
}

func TestKeepsDistances(t *testing.T) {
	eachGraph(func(g impl.Graph) {
		eachSet(g, func(set int) {
			if want := keepsIn(g, set); impl.KeepsDistances(g, set) != want {
				t.Errorf("KeepsDistances(%v, %d) is %t", g, set, !want)
			}
		})
	})
	g := graphFrom(t, "7: 01 06 12 23 34 45 56")
	for set, want := range map[int]bool{0b0001111: true, 0b0011111: false, 0b1111111: true, 0b1000111: true, 0b0000101: false, 0b0111111: false} {
		if impl.KeepsDistances(g, set) != want {
			t.Errorf("KeepsDistances of a circle of seven, %b is %t", set, !want)
		}
	}
}

// eachPrunes visits all lists of up to 3 prunes with vertices, kinds and anchors that are valid or next to that.
func eachPrunes(visit func(l []impl.Prune)) {
	var extend func(n int, l []impl.Prune)
	extend = func(n int, l []impl.Prune) {
		if len(l) == n {
			visit(l)
			return
		}
		for v := range n {
			for kind := -1; kind <= 4; kind++ {
				for anchor := -2; anchor <= n; anchor++ {
					extend(n, append(slices.Clone(l), impl.Prune{Vertex: v, Kind: kind, Anchor: anchor}))
				}
			}
		}
	}
	for n := 1; n <= 2; n++ {
		extend(n, nil)
	}
	eachList(3, 3, func(order []int) bool {
		for code := range 5 * 5 * 5 * 5 {
			l := []impl.Prune{{Vertex: order[0], Kind: code % 5, Anchor: code/5%5 - 1}, {Vertex: order[1], Kind: code / 25 % 5, Anchor: code/125%5 - 1}, {Vertex: order[2], Anchor: -1}}
			visit(l)
		}
		return true
	})
}

func TestGraphOfPrunes(t *testing.T) {
	accepted := 0
	eachPrunes(func(l []impl.Prune) {
		want, wantOk := unpruned(l)
		g, ok := impl.GraphOfPrunes(l)
		if !wantOk {
			want = impl.Graph{}
		} else {
			accepted++
		}
		if ok != wantOk || !sameGraph(g, want) {
			t.Errorf("GraphOfPrunes(%v) = %v, %t, want %v, %t", l, g, ok, want, wantOk)
		}
		if ok && !impl.IsHereditary(g) {
			t.Errorf("GraphOfPrunes(%v) = %v", l, g)
		}
	})
	if accepted < 100 {
		t.Errorf("%d lists are accepted", accepted)
	}
	g, ok := impl.GraphOfPrunes(prunesFrom(3, 3, 6, 1, 2, 0, 5, 1, 6, 0, 3, 2, 6, 2, 4, 2, 1, 4, 4, 0, -1))
	checkGraph(t, "GraphOfPrunes", g, ok, graphFrom(t, "7: 02 03 04 06 12 13 14 16 23 24 26 35 36 56"), true)
}

func TestTwoTwinsAlone(t *testing.T) {
	for kind, want := range []string{"2:", "2: 01", "2:", "2: 01"} {
		anchor := 1
		if kind == impl.PruneAlone {
			anchor = -1
		}
		g, ok := impl.GraphOfPrunes(prunesFrom(0, kind, anchor, 1, impl.PruneAlone, -1))
		checkGraph(t, "GraphOfPrunes", g, ok, graphFrom(t, want), true)
	}
	for text, want := range map[string][]impl.Prune{
		"2:":    prunesFrom(0, impl.PruneAlone, -1, 1, impl.PruneAlone, -1),
		"2: 01": prunesFrom(0, impl.PrunePendant, 1, 1, impl.PruneAlone, -1),
	} {
		g := graphFrom(t, text)
		l, ok := impl.PruneOrder(g)
		if !ok || !slices.Equal(l, want) || !impl.IsHereditary(g) {
			t.Errorf("PruneOrder of %q = %v, %t, want %v", text, l, ok, want)
		}
		if set, ok := impl.FindStretched(g); set != 0 || ok {
			t.Errorf("FindStretched of %q = %d, %t", text, set, ok)
		}
	}
	if impl.KeepsDistances(graphFrom(t, "2:"), 3) || !impl.KeepsDistances(graphFrom(t, "2: 01"), 3) || !impl.KeepsDistances(graphFrom(t, "2:"), 2) {
		t.Error("KeepsDistances does not tell two vertices")
	}
}

func TestFormatPrunes(t *testing.T) {
	for vertex := -2; vertex <= 8; vertex++ {
		for kind := -1; kind <= 4; kind++ {
			for anchor := -3; anchor <= 8; anchor++ {
				l, want := prunesFrom(6, 3, 0, vertex, kind, anchor, 0, 0, -1), ""
				if vertex >= 0 && vertex < 7 && kind >= 0 && kind <= 3 && anchor >= -1 && anchor < 7 {
					want = prunesText(l)
				}
				if got := impl.FormatPrunes(l); got != want {
					t.Errorf("FormatPrunes(%v) = %q, want %q", l, got, want)
				}
			}
		}
	}
	seven := slices.Repeat(prunesFrom(5, 2, 5), 7)
	if got := impl.FormatPrunes(seven); got != "5=5 5=5 5=5 5=5 5=5 5=5 5=5" {
		t.Errorf("FormatPrunes of 7 prunes = %q", got)
	}
	if impl.FormatPrunes(append(seven, impl.Prune{Vertex: 5, Kind: 2, Anchor: 5})) != "" || impl.FormatPrunes(nil) != "" || impl.FormatPrunes([]impl.Prune{}) != "" {
		t.Error("FormatPrunes does not stop at 7 prunes, or finds some where there are none")
	}
	for _, n := range append(strangeNumbers(), math.MaxInt32, 64, 63) {
		if n != -1 && impl.FormatPrunes(prunesFrom(0, 1, n)) != "" || impl.FormatPrunes(prunesFrom(n, 0, -1)) != "" || impl.FormatPrunes(prunesFrom(0, n, -1)) != "" {
			t.Errorf("FormatPrunes accepts %d", n)
		}
	}
}

func TestHereditaryFunctionsRefuseInvalidArguments(t *testing.T) {
	for _, set := range append(strangeNumbers(), 0, 4, 7) {
		if impl.KeepsDistances(graphFrom(t, "2: 01"), set) {
			t.Errorf("KeepsDistances accepts the set %d", set)
		}
	}
	for _, vertices := range noPermutations() {
		l := make([]impl.Prune, len(vertices))
		for i, v := range vertices {
			l[i] = impl.Prune{Vertex: v, Kind: impl.PruneAlone, Anchor: -1}
		}
		g, ok := impl.GraphOfPrunes(l)
		checkNoGraph(t, "GraphOfPrunes", g, ok)
	}
	for _, n := range append(strangeNumbers(), 0, 1, 2, 64, 63) {
		for kind := 1; kind <= 3; kind++ {
			g, ok := impl.GraphOfPrunes(prunesFrom(1, kind, n, 0, kind, n))
			checkNoGraph(t, "GraphOfPrunes", g, ok)
		}
		if n > 3 || n < 0 {
			g, ok := impl.GraphOfPrunes(prunesFrom(0, n, 1, 1, 0, -1))
			checkNoGraph(t, "GraphOfPrunes", g, ok)
		}
	}
	for _, g := range invalidGraphs() {
		checkNoPrunes(t, g)
		if set, ok := impl.FindStretched(g); set != 0 || ok {
			t.Errorf("FindStretched(%v) = %d, %t", g, set, ok)
		}
		for set := range 9 {
			if impl.KeepsDistances(g, set) {
				t.Errorf("KeepsDistances(%v, %d) is true", g, set)
			}
		}
	}
}

func TestHereditaryFunctionsLeaveArgumentsAlone(t *testing.T) {
	for _, plain := range append(invalidGraphs(), graphOf(4, 0b101101), graphOf(5, 3), graphOf(7, 12345)) {
		g, checkRows := guardedGraph(plain)
		impl.PruneOrder(g)
		impl.IsHereditary(g)
		impl.KeepsDistances(g, 7)
		impl.FindStretched(g)
		checkRows(t, "a function of chapter 21")
	}
	whole := prunesFrom(1, 1, 0, 0, 0, -1, 9, 9, 9)
	g, _ := impl.GraphOfPrunes(whole[:2])
	impl.FormatPrunes(whole[:2])
	if !slices.Equal(whole, prunesFrom(1, 1, 0, 0, 0, -1, 9, 9, 9)) || !sameGraph(g, graphFrom(t, "2: 01")) {
		t.Errorf("the prunes become %v, their graph is %v", whole, g)
	}
}

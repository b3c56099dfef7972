package tests

import (
	"math"
	"slices"
	"strconv"
	"testing"

	"loop.example/g02081/impl"
)

// formatted is what FormatGraph should return, for graphs of at most 10 vertices.
func formatted(g impl.Graph) string {
	text := string(rune('0'+g.Size)) + ":"
	for v := range g.Size {
		for w := v + 1; w < g.Size; w++ {
			if joined(g, v, w) {
				text += " " + string(rune('0'+v)) + string(rune('0'+w))
			}
		}
	}
	return text
}

func sameGraph(a, b impl.Graph) bool {
	return a.Size == b.Size && slices.Equal(a.Rows, b.Rows)
}

func checkGraph(t *testing.T, what string, got impl.Graph, ok bool, want impl.Graph, wantOk bool) {
	t.Helper()
	if ok != wantOk || !sameGraph(got, want) {
		t.Errorf("%s = %v, %t, want %v, %t", what, got, ok, want, wantOk)
	}
}

func checkNoGraph(t *testing.T, what string, got impl.Graph, ok bool) {
	t.Helper()
	checkGraph(t, what, got, ok, impl.Graph{}, false)
}

func checkParse(t *testing.T, s string, want impl.Graph, wantOk bool) {
	t.Helper()
	g, ok := impl.ParseGraph(s)
	checkGraph(t, "ParseGraph of "+strconv.Quote(s), g, ok, want, wantOk)
}

func TestIsGraphAcceptsGraphs(t *testing.T) {
	eachGraph(func(g impl.Graph) {
		if !impl.IsGraph(g) {
			t.Errorf("IsGraph(%v) is false", g)
		}
	})
	if impl.MaxSize != 7 {
		t.Error("MaxSize", impl.MaxSize)
	}
}

func TestIsGraphRefusesEachBrokenRule(t *testing.T) {
	for _, g := range invalidGraphs() {
		if impl.IsGraph(g) {
			t.Errorf("IsGraph(%v) is true", g)
		}
	}
}

func TestIsGraphAcceptsJustGraphs(t *testing.T) {
	valid := map[[3]int]bool{}
	eachGraphOf(3, func(g impl.Graph) { valid[[3]int(g.Rows)] = true })
	for a := -1; a <= 8; a++ {
		for b := -1; b <= 8; b++ {
			for c := -1; c <= 8; c++ {
				g := impl.Graph{Size: 3, Rows: []int{a, b, c}}
				if impl.IsGraph(g) != valid[[3]int{a, b, c}] {
					t.Errorf("IsGraph(%v) is %t", g, impl.IsGraph(g))
				}
			}
		}
	}
}

func TestHasEdge(t *testing.T) {
	eachGraph(func(g impl.Graph) {
		for v := range g.Size {
			for w := range g.Size {
				if impl.HasEdge(g, v, w) != joined(g, v, w) {
					t.Fatalf("HasEdge(%v, %d, %d) is wrong", g, v, w)
				}
			}
		}
	})
	g := graphOf(3, 7)
	for _, v := range append(strangeNumbers(), 3, 7, 63, 64) {
		if impl.HasEdge(g, v, 0) || impl.HasEdge(g, 0, v) || impl.HasEdge(g, v, v) {
			t.Errorf("HasEdge with %d is true", v)
		}
	}
	for _, g := range invalidGraphs() {
		for v := range 2 {
			if impl.HasEdge(g, v, 1-v) || impl.HasEdge(g, v, v) {
				t.Errorf("HasEdge of %v is true", g)
			}
		}
	}
}

func TestAddEdgeAndRemoveEdgeTurnOneEdge(t *testing.T) {
	for n := 1; n <= 4; n++ {
		for bits := range 1 << (n * (n - 1) / 2) {
			g, i := graphOf(n, bits), 0
			for v := range n {
				for w := v + 1; w < n; w++ {
					checkTurns(t, g, v, w, graphOf(n, bits|1<<i), graphOf(n, bits&^(1<<i)))
					checkTurns(t, g, w, v, graphOf(n, bits|1<<i), graphOf(n, bits&^(1<<i)))
					i++
				}
			}
		}
	}
}

func checkTurns(t *testing.T, g impl.Graph, v, w int, with, without impl.Graph) {
	t.Helper()
	added, ok := impl.AddEdge(g, v, w)
	checkGraph(t, "AddEdge", added, ok, with, !joined(g, v, w))
	removed, ok := impl.RemoveEdge(g, v, w)
	checkGraph(t, "RemoveEdge", removed, ok, without, joined(g, v, w))
}

func TestAddEdgeAndRemoveEdgeReturnTheGraphWhenTheyFail(t *testing.T) {
	g := graphFrom(t, "3: 01")
	for _, v := range append(strangeNumbers(), 3, 7, 64) {
		for _, w := range []int{0, 1, 2, v} {
			checkUnchanged(t, g, v, w)
			checkUnchanged(t, g, w, v)
		}
	}
	for v := range 3 {
		checkUnchanged(t, g, v, v)
	}
	for _, g := range invalidGraphs() {
		for v := range 3 {
			for w := range 3 {
				checkUnchanged(t, g, v, w)
			}
		}
	}
}

func checkUnchanged(t *testing.T, g impl.Graph, v, w int) {
	t.Helper()
	added, ok := impl.AddEdge(g, v, w)
	checkGraph(t, "AddEdge", added, ok, g, false)
	removed, ok := impl.RemoveEdge(g, v, w)
	checkGraph(t, "RemoveEdge", removed, ok, g, false)
	checkApart(t, "AddEdge and RemoveEdge", g.Rows, added.Rows, removed.Rows)
}

func TestComplementHasExactlyTheOtherEdges(t *testing.T) {
	for n := 1; n <= 5; n++ {
		all := 1<<(n*(n-1)/2) - 1
		for bits := range all + 1 {
			c, ok := impl.ComplementOf(graphOf(n, bits))
			checkGraph(t, "ComplementOf", c, ok, graphOf(n, all&^bits), true)
		}
	}
	eachLargeGraph(7, func(g impl.Graph) {
		c, ok := impl.ComplementOf(g)
		if !ok || !impl.IsGraph(c) {
			t.Fatalf("ComplementOf(%v) is no graph", g)
		}
		back, ok := impl.ComplementOf(c)
		checkGraph(t, "ComplementOf of ComplementOf", back, ok, g, true)
	})
	for _, g := range invalidGraphs() {
		c, ok := impl.ComplementOf(g)
		checkNoGraph(t, "ComplementOf", c, ok)
	}
}

func TestEdgesOf(t *testing.T) {
	eachGraph(func(g impl.Graph) {
		var want [][]int
		for v := range g.Size {
			for w := v + 1; w < g.Size; w++ {
				if joined(g, v, w) {
					want = append(want, []int{v, w})
				}
			}
		}
		if got := impl.EdgesOf(g); !equalLists(got, want) {
			t.Errorf("EdgesOf(%v) = %v, want %v", g, got, want)
		}
	})
	for _, g := range invalidGraphs() {
		if got := impl.EdgesOf(g); len(got) != 0 {
			t.Errorf("EdgesOf(%v) = %v", g, got)
		}
	}
	checkApart(t, "EdgesOf", impl.EdgesOf(graphOf(7, 1<<21-1))...)
}

func TestFormatGraphAndParseGraphAreInverse(t *testing.T) {
	eachGraph(func(g impl.Graph) {
		s := impl.FormatGraph(g)
		if s != formatted(g) {
			t.Errorf("FormatGraph(%v) = %q, want %q", g, s, formatted(g))
		}
		checkParse(t, s, g, true)
	})
	for _, g := range invalidGraphs() {
		if s := impl.FormatGraph(g); s != "" {
			t.Errorf("FormatGraph(%v) = %q", g, s)
		}
	}
}

func TestGraphOfOneVertex(t *testing.T) {
	one := impl.Graph{Size: 1, Rows: []int{0}}
	checkParse(t, "1:", one, true)
	if s := impl.FormatGraph(one); s != "1:" {
		t.Errorf("FormatGraph = %q", s)
	}
	if !impl.IsGraph(one) || len(impl.EdgesOf(one)) != 0 || impl.HasEdge(one, 0, 0) {
		t.Error("the graph of one vertex is not valid, or has an edge")
	}
	c, ok := impl.ComplementOf(one)
	checkGraph(t, "ComplementOf", c, ok, one, true)
	checkUnchanged(t, one, 0, 0)
	for _, name := range []string{"path", "cycle", "complete", "star", "wheel", "empty"} {
		g, ok := impl.NamedGraph(name, 1)
		checkGraph(t, name, g, ok, one, true)
	}
}

func TestParseGraphAcceptsJustWhatIsFormatted(t *testing.T) {
	graphs := map[string]impl.Graph{}
	for n := 1; n <= 3; n++ {
		eachGraphOf(n, func(g impl.Graph) { graphs[formatted(g)] = g })
	}
	eachString("0123: ;", 5, func(s string) {
		g, ok := graphs[s]
		checkParse(t, s, g, ok)
	})
	eachString("012 ", 4, func(s string) {
		g, ok := graphs["3: 01"+s]
		checkParse(t, "3: 01"+s, g, ok)
	})
}

func TestParseGraphRefusesWhatIsNotFormatted(t *testing.T) {
	for _, s := range []string{
		"", ":", "1", "3", "0:", "8:", "9:", "-1:", "01:", "10:", "3: ", "3:  ", "3:\n", " 3:", "3: 0", "3: 01 ", "3: 01 1", "3: 01\n",
		"3:01", "3:\t01", "3: 01,12", "3: 01  12", "3: 02 01", "3: 12 01", "3: 01 01", "3: 10", "3: 00", "3: 03", "3: 0\xb1", "3: 1",
		"3; 01", "3. 01", "2: 01 12", "7: 07", "7: 67 66", "7: 56 6/", "3:.01", "3: 0112", "\xb3: 01", "\xff\xff\xff\xff", "3: 01 02 12 12",
		"7:\x00", "3: \x00\x01", "3:" + string(make([]byte, 3000)),
	} {
		checkParse(t, s, impl.Graph{}, false)
	}
}

func TestEqualGraphs(t *testing.T) {
	graphs := append(invalidGraphs(), graphOf(3, 0), graphOf(3, 1), graphOf(3, 2), graphOf(4, 1), graphOf(1, 0))
	for _, a := range graphs {
		for _, b := range graphs {
			if impl.EqualGraphs(a, b) != sameGraph(a, b) {
				t.Errorf("EqualGraphs(%v, %v) is %t", a, b, impl.EqualGraphs(a, b))
			}
		}
	}
	if !impl.EqualGraphs(impl.Graph{Size: 2, Rows: nil}, impl.Graph{Size: 2, Rows: []int{}}) {
		t.Error("a nil list differs from an empty one")
	}
}

func TestNamedGraph(t *testing.T) {
	cases := map[string][]string{
		"path":     {"1:", "2: 01", "3: 01 12", "4: 01 12 23", "5: 01 12 23 34", "6: 01 12 23 34 45", "7: 01 12 23 34 45 56"},
		"cycle":    {"1:", "2: 01", "3: 01 02 12", "4: 01 03 12 23", "5: 01 04 12 23 34", "6: 01 05 12 23 34 45", "7: 01 06 12 23 34 45 56"},
		"complete": {"1:", "2: 01", "3: 01 02 12", "4: 01 02 03 12 13 23", "5: 01 02 03 04 12 13 14 23 24 34"},
		"star":     {"1:", "2: 01", "3: 01 02", "4: 01 02 03", "5: 01 02 03 04", "6: 01 02 03 04 05", "7: 01 02 03 04 05 06"},
		"wheel":    {"1:", "2: 01", "3: 01 02 12", "4: 01 02 03 12 13 23", "5: 01 02 03 04 12 14 23 34", "6: 01 02 03 04 05 12 15 23 34 45", "7: 01 02 03 04 05 06 12 16 23 34 45 56"},
		"empty":    {"1:", "2:", "3:", "4:", "5:", "6:", "7:"},
	}
	for name, texts := range cases {
		for i, text := range texts {
			g, ok := impl.NamedGraph(name, i+1)
			if !ok || formatted(g) != text {
				t.Errorf("NamedGraph(%q, %d) = %v, %t, want %q", name, i+1, g, ok, text)
			}
		}
		for _, n := range append(strangeNumbers(), 0, 8) {
			g, ok := impl.NamedGraph(name, n)
			checkNoGraph(t, name, g, ok)
		}
	}
	complete, ok := impl.NamedGraph("complete", 7)
	checkGraph(t, "complete", complete, ok, graphOf(7, 1<<21-1), true)
}

func TestNamedGraphRefusesOtherNames(t *testing.T) {
	for _, name := range []string{"", "tree", "Path", "PATH", " path", "path ", "paths", "pat", "path4", "\xff"} {
		for _, n := range []int{0, 1, 4, 7, 8, -1, math.MaxInt} {
			g, ok := impl.NamedGraph(name, n)
			checkNoGraph(t, name, g, ok)
		}
	}
}

func TestGraphFunctionsLeaveArgumentsAlone(t *testing.T) {
	for _, plain := range append(invalidGraphs(), graphOf(4, 0b101101), graphOf(7, 12345)) {
		g, check := guardedGraph(plain)
		a, _ := impl.AddEdge(g, 0, 1)
		b, _ := impl.AddEdge(g, 1, 2)
		c, _ := impl.RemoveEdge(g, 0, 1)
		d, _ := impl.RemoveEdge(g, 1, 2)
		e, _ := impl.ComplementOf(g)
		checkApart(t, "results and argument", g.Rows, a.Rows, b.Rows, c.Rows, d.Rows, e.Rows)
		impl.IsGraph(g)
		impl.HasEdge(g, 0, 1)
		impl.EdgesOf(g)
		impl.FormatGraph(g)
		impl.EqualGraphs(g, g)
		check(t, "a function of chapter 2")
	}
}

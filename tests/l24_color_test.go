package tests

import (
	"math"
	"slices"
	"testing"

	"loop.example/g02081/impl"
)

// firstColoring goes through all lists of colors in lexicographic order, like a counter whose last digit turns first.
func firstColoring(g impl.Graph, k int) ([]int, bool) {
	colors := make([]int, g.Size)
	for {
		if isColoringIn(g, colors) {
			return colors, true
		}
		v := g.Size - 1
		for v >= 0 && colors[v] == k-1 {
			colors[v] = 0
			v--
		}
		if v < 0 {
			return nil, false
		}
		colors[v]++
	}
}

// countedColorings takes an edge away and subtracts the colorings in which its ends have the same color, those of the graph with both ends made one.
func countedColorings(g impl.Graph, k int) int {
	edges := edgeList(g)
	if len(edges) == 0 {
		n := 1
		for range g.Size {
			n *= k
		}
		return n
	}
	v, w := edges[0][0], edges[0][1]
	apart := impl.Graph{Size: g.Size, Rows: slices.Clone(g.Rows)}
	apart.Rows[v] &^= 1 << w
	apart.Rows[w] &^= 1 << v
	return countedColorings(apart, k) - countedColorings(mergedIn(apart, v, w), k)
}

// mergedIn makes w one with v and gives the last number to no vertex any more.
func mergedIn(g impl.Graph, v, w int) impl.Graph {
	kept := slices.DeleteFunc(members(1<<g.Size-1), func(u int) bool { return u == w })
	h := impl.Graph{Size: len(kept), Rows: make([]int, len(kept))}
	for i, a := range kept {
		for j, b := range kept {
			if joined(g, a, b) || a == v && joined(g, w, b) || b == v && joined(g, a, w) {
				h.Rows[i] |= 1 << j
			}
		}
	}
	return h
}

// partOf is the graph of some vertices with new numbers.
func partOf(g impl.Graph, set int) impl.Graph {
	kept := members(set)
	h := impl.Graph{Size: len(kept), Rows: make([]int, len(kept))}
	for i, a := range kept {
		for j, b := range kept {
			if joined(g, a, b) {
				h.Rows[i] |= 1 << j
			}
		}
	}
	return h
}

func isCliqueCoverIn(g impl.Graph, l []int) bool {
	times := make([]int, 7)
	for _, set := range l {
		if set < 0 || set >= 1<<g.Size || !isCliqueIn(g, set) {
			return false
		}
		for _, v := range members(set) {
			times[v]++
		}
	}
	for v := range g.Size {
		if times[v] != 1 {
			return false
		}
	}
	return true
}

func TestColoringWith(t *testing.T) {
	check := func(g impl.Graph) {
		for k := 1; k <= 7; k++ {
			want, wantOk := firstColoring(g, k)
			colors, ok := impl.ColoringWith(g, k)
			checkList(t, "ColoringWith of "+formatted(g), colors, ok, want, wantOk)
		}
	}
	eachPartGraph(check)
	for _, text := range []string{"6: 01 05 12 23 34 45 03", "7: 01 06 12 23 34 45 56", "7: 01 02 03 04 05 06 12 16 23 34 45 56", "7: 04 05 15 16 26 02 13 24 35 46", "6: 03 04 05 13 14 15 23 24 25"} {
		check(impl.Graph{Size: int(text[0] - '0'), Rows: rowsFrom(text)})
	}
	for _, k := range append(strangeNumbers(), 0, 8, 9, 64) {
		colors, ok := impl.ColoringWith(named(t, "path", 3), k)
		checkNoList(t, "ColoringWith", colors, ok)
	}
}

// rowsFrom reads edges in any order.
func rowsFrom(text string) []int {
	rows := make([]int, text[0]-'0')
	for i := 3; i < len(text); i += 3 {
		v, w := text[i]-'0', text[i+1]-'0'
		rows[v] |= 1 << w
		rows[w] |= 1 << v
	}
	return rows
}

func TestChromaticNumber(t *testing.T) {
	eachGraph(func(g impl.Graph) {
		want := fewestColors(g)
		if got := impl.ChromaticNumber(g); got != want {
			t.Errorf("ChromaticNumber(%v) = %d, want %d", g, got, want)
		}
	})
}

func TestCliqueCovers(t *testing.T) {
	eachGraph(func(g impl.Graph) {
		cover := impl.CliqueCoverOf(g)
		k := fewestColors(without(g))
		colors := make([]int, g.Size)
		for color, set := range cover {
			for _, v := range members(set) {
				colors[v] = color
			}
		}
		first, _ := impl.ColoringWith(without(g), k)
		if len(cover) != k || !isCliqueCoverIn(g, cover) || !impl.IsCliqueCover(g, cover) || !slices.Equal(colors, first) {
			t.Errorf("CliqueCoverOf(%v) = %v, want %d cliques with the colors %v", g, cover, k, first)
		}
	})
	cover := impl.CliqueCoverOf(graphFrom(t, "7: 06 15 16 23 34 56"))
	if !slices.Equal(cover, []int{0b1000001, 0b0100010, 0b0001100, 0b0010000}) {
		t.Errorf("CliqueCoverOf = %v", cover)
	}
}

func TestIsCliqueCover(t *testing.T) {
	for n := 1; n <= 3; n++ {
		eachGraphOf(n, func(g impl.Graph) {
			for length := range 4 {
				eachNumbers(length, -1, 1<<n, func(l []int) {
					if want := isCliqueCoverIn(g, l); impl.IsCliqueCover(g, l) != want {
						t.Errorf("IsCliqueCover(%v, %v) is %t", g, l, !want)
					}
				})
			}
		})
	}
	g := graphFrom(t, "7: 01 02 12 34 56")
	for _, l := range [][]int{{7, 24, 96}, {96, 7, 24}, {1, 2, 4, 8, 16, 32, 64}, {3, 4, 24, 96}, {5, 2, 24, 32, 64}} {
		if !impl.IsCliqueCover(g, l) {
			t.Errorf("IsCliqueCover refuses %v", l)
		}
	}
	for _, l := range [][]int{nil, {127}, {7, 24}, {7, 24, 96, 64}, {7, 24, 96, 96}, {7, 24, 32}, {7, 120}, {7, 24, 96, 128}, {7, 24, 96, -1}, {15, 16, 96}, make([]int, 300)} {
		if impl.IsCliqueCover(g, l) {
			t.Errorf("IsCliqueCover accepts %v", l)
		}
	}
	for _, set := range strangeNumbers() {
		if impl.IsCliqueCover(g, []int{7, 24, 96, set}) || impl.IsCliqueCover(g, []int{set}) {
			t.Errorf("IsCliqueCover accepts the set %d", set)
		}
	}
}

// eachNumbers visits all lists of some length of numbers from least to most.
func eachNumbers(length, least, most int, visit func(l []int)) {
	var extend func(l []int)
	extend = func(l []int) {
		if len(l) == length {
			visit(slices.Clone(l))
			return
		}
		for n := least; n <= most; n++ {
			extend(append(slices.Clone(l), n))
		}
	}
	extend(nil)
}

func TestCountColorings(t *testing.T) {
	eachPartGraph(func(g impl.Graph) {
		for k := range 5 {
			want := countedColorings(g, k)
			if got := impl.CountColorings(g, k); got != want {
				t.Errorf("CountColorings(%v, %d) = %d, want %d", g, k, got, want)
			}
		}
		for _, k := range append(strangeNumbers(), 5, 6, 7, 8) {
			if got := impl.CountColorings(g, k); got != -1 {
				t.Errorf("CountColorings(%v, %d) = %d", g, k, got)
			}
		}
	})
	if n := impl.CountColorings(named(t, "empty", 7), 4); n != 16384 {
		t.Errorf("CountColorings of 7 vertices without edges = %d", n)
	}
	for range 200 {
		if n := impl.CountColorings(named(t, "cycle", 7), 4); n != 2184 {
			t.Fatalf("CountColorings of a circle of seven = %d", n)
		}
	}
}

func TestIsCritical(t *testing.T) {
	eachGraph(func(g impl.Graph) {
		for v := -1; v <= g.Size; v++ {
			want := g.Size > 1 && v >= 0 && v < g.Size
			if want {
				want = fewestColors(partOf(g, (1<<g.Size-1)&^(1<<v))) < fewestColors(g)
			}
			if impl.IsCritical(g, v) != want {
				t.Errorf("IsCritical(%v, %d) is %t", g, v, !want)
			}
		}
	})
}

func TestColorsAreAsManyAsACliqueHasVertices(t *testing.T) {
	equal, others := 0, 0
	check := func(g impl.Graph) {
		colors, clique := impl.ChromaticNumber(g), impl.CliqueNumber(g)
		covers, independent := len(impl.CliqueCoverOf(g)), len(members(impl.LargestIndependent(g)))
		if colors < clique || covers < independent {
			t.Errorf("%v has %d colors and a clique of %d, %d covers and %d independent vertices", g, colors, clique, covers, independent)
		}
		if impl.IsChordal(g) || impl.IsBipartite(g) || impl.IsBipartite(without(g)) || impl.IsCograph(g) {
			equal++
			if colors != clique || covers != independent {
				t.Errorf("%v has %d colors and a clique of %d, %d covers and %d independent vertices", g, colors, clique, covers, independent)
			}
		} else if colors > clique {
			others++
		}
	}
	eachGraph(check)
	for bits := 1; bits < 1<<15; bits += 31 {
		check(graphOf(6, bits))
	}
	if equal == 0 || others == 0 {
		t.Errorf("%d graphs of the classes, %d others with more colors", equal, others)
	}
}

func TestAsManyColorsAsVertices(t *testing.T) {
	for n := 1; n <= 7; n++ {
		all := members(1<<n - 1)
		complete, empty := named(t, "complete", n), named(t, "empty", n)
		colors, ok := impl.ColoringWith(complete, n)
		checkList(t, "ColoringWith", colors, ok, all, true)
		colors, ok = impl.ColoringWith(complete, 7)
		checkList(t, "ColoringWith", colors, ok, all, true)
		colors, ok = impl.ColoringWith(complete, n-1)
		checkNoList(t, "ColoringWith", colors, ok)
		colors, ok = impl.ColoringWith(empty, n)
		checkList(t, "ColoringWith", colors, ok, make([]int, n), true)
		colors, ok = impl.ColoringWith(named(t, "star", n), n)
		checkList(t, "ColoringWith", colors, ok, append([]int{0}, slices.Repeat([]int{1}, n-1)...), true)
		if impl.ChromaticNumber(complete) != n || impl.ChromaticNumber(empty) != 1 || len(impl.CliqueCoverOf(empty)) != n || !slices.Equal(impl.CliqueCoverOf(complete), []int{1<<n - 1}) {
			t.Errorf("ChromaticNumber of %d vertices is wrong", n)
		}
		for v := range n {
			if impl.IsCritical(complete, v) != (n > 1) || impl.IsCritical(empty, v) {
				t.Errorf("IsCritical of %d vertices, %d is wrong", n, v)
			}
		}
	}
	if n := impl.CountColorings(named(t, "complete", 4), 4); n != 24 {
		t.Errorf("CountColorings = %d", n)
	}
}

func TestColorFunctionsRefuseInvalidArguments(t *testing.T) {
	for _, v := range append(strangeNumbers(), 3, 64) {
		if impl.IsCritical(named(t, "complete", 3), v) {
			t.Errorf("IsCritical accepts %d", v)
		}
	}
	for _, g := range invalidGraphs() {
		if impl.ChromaticNumber(g) != -1 || len(impl.CliqueCoverOf(g)) != 0 || impl.IsCliqueCover(g, nil) || impl.IsCliqueCover(g, []int{1}) || impl.IsCliqueCover(g, []int{1, 2}) {
			t.Errorf("ChromaticNumber(%v) = %d, CliqueCoverOf = %v", g, impl.ChromaticNumber(g), impl.CliqueCoverOf(g))
		}
		for _, k := range []int{-1, 0, 1, 2, 4, 7, 8, math.MaxInt} {
			colors, ok := impl.ColoringWith(g, k)
			checkNoList(t, "ColoringWith", colors, ok)
			if impl.CountColorings(g, k) != -1 || impl.IsCritical(g, k) {
				t.Errorf("%v is accepted with %d", g, k)
			}
		}
	}
}

func TestColorFunctionsLeaveArgumentsAlone(t *testing.T) {
	for _, plain := range append(invalidGraphs(), graphOf(4, 0b101101), graphOf(5, 3), graphOf(7, 12345)) {
		g, checkRows := guardedGraph(plain)
		l, checkNumbers := guarded([]int{3, 12, 16})
		impl.ChromaticNumber(g)
		impl.CountColorings(g, 3)
		impl.IsCritical(g, 1)
		impl.IsCliqueCover(g, l)
		colors, _ := impl.ColoringWith(g, 4)
		checkApart(t, "results", g.Rows, l, colors, impl.CliqueCoverOf(g))
		checkRows(t, "a function of chapter 24")
		checkNumbers(t, "a function of chapter 24")
	}
}

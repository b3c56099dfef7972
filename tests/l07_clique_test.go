package tests

import (
	"slices"
	"testing"

	"loop.example/g02081/impl"
)

// bestSet is the least number of a set with most vertices that passes a test.
func bestSet(g impl.Graph, passes func(set int) bool) int {
	best := 0
	eachSet(g, func(set int) {
		if passes(set) && len(members(set)) > len(members(best)) {
			best = set
		}
	})
	return best
}

func maximalIn(g impl.Graph) []int {
	var maximal []int
	eachSet(g, func(set int) {
		grows := false
		for v := range g.Size {
			grows = grows || set>>v&1 == 0 && isCliqueIn(g, set|1<<v)
		}
		if isCliqueIn(g, set) && !grows {
			maximal = append(maximal, set)
		}
	})
	return maximal
}

func isColoringIn(g impl.Graph, colors []int) bool {
	if len(colors) != g.Size {
		return false
	}
	for v := range g.Size {
		for w := range g.Size {
			if colors[v] < 0 || colors[v] > 6 || joined(g, v, w) && colors[v] == colors[w] {
				return false
			}
		}
	}
	return true
}

func coloredBy(g impl.Graph, order []int) []int {
	colors := slices.Repeat([]int{-1}, g.Size)
	for _, v := range order {
		free := func(color int) bool {
			for w := range g.Size {
				if joined(g, v, w) && colors[w] == color {
					return false
				}
			}
			return true
		}
		color := 0
		for !free(color) {
			color++
		}
		colors[v] = color
	}
	return colors
}

// fewestColors tries all colorings with fewer and fewer colors.
func fewestColors(g impl.Graph) int {
	for k := 1; ; k++ {
		colors := make([]int, g.Size)
		var fits func(v int) bool
		fits = func(v int) bool {
			if v == g.Size {
				return true
			}
		colors:
			for color := range k {
				for w := range v {
					if joined(g, v, w) && colors[w] == color {
						continue colors
					}
				}
				colors[v] = color
				if fits(v + 1) {
					return true
				}
			}
			return false
		}
		if fits(0) {
			return k
		}
	}
}

func TestMaximalCliques(t *testing.T) {
	eachGraph(func(g impl.Graph) {
		if got, want := impl.MaximalCliques(g), maximalIn(g); !slices.Equal(got, want) {
			t.Errorf("MaximalCliques(%v) = %v, want %v", g, got, want)
		}
	})
	// Groups of 2, 2 and 3 vertices, joined except within the groups: no graph of 7 vertices has more maximal cliques.
	g := graphFrom(t, "7: 02 03 04 05 06 12 13 14 15 16 24 25 26 34 35 36")
	if got := impl.MaximalCliques(g); len(got) != 12 {
		t.Errorf("MaximalCliques(%v) = %v", g, got)
	}
}

func TestLargestCliqueAndIndependent(t *testing.T) {
	eachGraph(func(g impl.Graph) {
		clique := bestSet(g, func(set int) bool { return isCliqueIn(g, set) })
		if got := impl.LargestClique(g); got != clique || impl.CliqueNumber(g) != len(members(clique)) {
			t.Errorf("LargestClique(%v) = %d, CliqueNumber = %d, want %d", g, got, impl.CliqueNumber(g), clique)
		}
		independent := bestSet(g, func(set int) bool { return edgesWithin(g, set) == 0 })
		if got := impl.LargestIndependent(g); got != independent {
			t.Errorf("LargestIndependent(%v) = %d, want %d", g, got, independent)
		}
	})
}

func TestLargestSetsAreTheLeastOfSeveral(t *testing.T) {
	g := graphFrom(t, "7: 05 06 12 34 56")
	if c := impl.LargestClique(g); c != 97 {
		t.Errorf("LargestClique = %d", c)
	}
	g = graphFrom(t, "6: 02 13 45")
	if c := impl.LargestClique(g); c != 5 {
		t.Errorf("LargestClique = %d", c)
	}
	if s := impl.LargestIndependent(g); s != 19 {
		t.Errorf("LargestIndependent = %d", s)
	}
}

func TestColorByOrder(t *testing.T) {
	eachPartGraph(func(g impl.Graph) {
		eachList(g.Size, g.Size, func(order []int) bool {
			got := impl.ColorByOrder(g, order)
			if want := coloredBy(g, order); !slices.Equal(got, want) || !impl.IsColoring(g, got) {
				t.Errorf("ColorByOrder(%v, %v) = %v, want %v", g, order, got, want)
			}
			return true
		})
	})
	colors := impl.ColorByOrder(named(t, "complete", 7), []int{6, 5, 4, 3, 2, 1, 0})
	if !slices.Equal(colors, []int{6, 5, 4, 3, 2, 1, 0}) {
		t.Errorf("ColorByOrder of a clique = %v", colors)
	}
}

func TestIsColoring(t *testing.T) {
	for n := 1; n <= 4; n++ {
		eachGraphOf(n, func(g impl.Graph) {
			for number := range 1 << (2 * n) {
				colors := make([]int, n)
				for v := range colors {
					colors[v] = []int{0, 1, 2, 6}[number%4]
					number /= 4
				}
				if impl.IsColoring(g, colors) != isColoringIn(g, colors) {
					t.Fatalf("IsColoring(%v, %v) is %t", g, colors, impl.IsColoring(g, colors))
				}
			}
		})
	}
}

func TestIsColoringRefusesStrangeColors(t *testing.T) {
	g := graphFrom(t, "3: 01 12")
	for _, colors := range [][]int{nil, {}, {0}, {0, 1}, {0, 1, 0, 1}, {0, 1, 0, 0}, {1, 1, 0}, {0, 1, 1}, make([]int, 1000)} {
		if impl.IsColoring(g, colors) {
			t.Errorf("IsColoring accepts %v", colors)
		}
	}
	for v := range 3 {
		for _, color := range append(strangeNumbers(), 7, 8) {
			colors := []int{0, 1, 0}
			colors[v] = color
			if impl.IsColoring(g, colors) {
				t.Errorf("IsColoring accepts %v", colors)
			}
		}
	}
	if !impl.IsColoring(g, []int{6, 5, 0}) {
		t.Error("IsColoring refuses the greatest color")
	}
}

func TestChordalColoring(t *testing.T) {
	eachGraph(func(g impl.Graph) {
		order, chordal := eliminated(g)
		got, ok := impl.ChordalColoring(g)
		if !chordal {
			checkNoList(t, "ChordalColoring", got, ok)
			return
		}
		slices.Reverse(order)
		checkList(t, "ChordalColoring of "+formatted(g), got, ok, coloredBy(g, order), true)
	})
}

func TestChordalGraphsHaveAsManyColorsAsACliqueHasVertices(t *testing.T) {
	eachGraph(func(g impl.Graph) {
		colors, ok := impl.ChordalColoring(g)
		if !ok {
			return
		}
		k := impl.CliqueNumber(g)
		if !impl.IsColoring(g, colors) || slices.Max(colors)+1 != k || fewestColors(g) != k {
			t.Errorf("%v has a clique of %d vertices and the colors %v", g, k, colors)
		}
	})
}

func TestSingleVertex(t *testing.T) {
	g := impl.Graph{Size: 1, Rows: []int{0}}
	if !slices.Equal(impl.MaximalCliques(g), []int{1}) || impl.CliqueNumber(g) != 1 || impl.LargestClique(g) != 1 || impl.LargestIndependent(g) != 1 {
		t.Error("MaximalCliques", impl.MaximalCliques(g))
	}
	colors, ok := impl.ChordalColoring(g)
	checkList(t, "ChordalColoring", colors, ok, []int{0}, true)
	if !slices.Equal(impl.ColorByOrder(g, []int{0}), []int{0}) || !impl.IsColoring(g, []int{0}) || !impl.IsColoring(g, []int{6}) || impl.IsColoring(g, nil) {
		t.Error("ColorByOrder", impl.ColorByOrder(g, []int{0}))
	}
}

func TestCliqueFunctionsRefuseInvalidArguments(t *testing.T) {
	for _, order := range noOrders() {
		if c := impl.ColorByOrder(graphFrom(t, "3: 01 12"), order); len(c) != 0 {
			t.Errorf("ColorByOrder of %v = %v", order, c)
		}
	}
	for _, g := range invalidGraphs() {
		if len(impl.MaximalCliques(g)) != 0 || impl.CliqueNumber(g) != -1 || impl.LargestClique(g) != 0 || impl.LargestIndependent(g) != 0 {
			t.Errorf("%v has cliques", g)
		}
		colors, ok := impl.ChordalColoring(g)
		checkNoList(t, "ChordalColoring", colors, ok)
		for n := range 9 {
			if len(impl.ColorByOrder(g, members(1<<n-1))) != 0 || impl.IsColoring(g, members(1<<n-1)) || impl.IsColoring(g, make([]int, n)) {
				t.Errorf("%v is colored", g)
			}
		}
	}
}

func TestCliqueFunctionsLeaveArgumentsAlone(t *testing.T) {
	for _, plain := range append(invalidGraphs(), graphOf(4, 0b101101), graphOf(4, 1), graphOf(7, 12345)) {
		g, checkRows := guardedGraph(plain)
		l, checkNumbers := guarded([]int{3, 1, 2, 0})
		impl.CliqueNumber(g)
		impl.LargestClique(g)
		impl.LargestIndependent(g)
		impl.IsColoring(g, l)
		colors, _ := impl.ChordalColoring(g)
		checkApart(t, "results", g.Rows, l, colors, impl.MaximalCliques(g), impl.ColorByOrder(g, l))
		checkRows(t, "a function of chapter 7")
		checkNumbers(t, "a function of chapter 7")
	}
}

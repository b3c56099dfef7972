package tests

import (
	"math"
	"slices"
	"testing"

	"loop.example/g02081/impl"
)

// invalidTrees breaks each rule of IsTree by itself.
func invalidTrees() []impl.Tree {
	trees := []impl.Tree{
		{},
		{Bags: []int{1}},
		{Parent: []int{-1}},
		{Bags: []int{1}, Parent: []int{0}},
		{Bags: []int{1}, Parent: []int{-2}},
		{Bags: []int{1}, Parent: []int{-1, 0}},
		{Bags: []int{1, 2}, Parent: []int{-1}},
		{Bags: []int{1, 2}, Parent: []int{-1, -1}},
		{Bags: []int{1, 2}, Parent: []int{-1, 1}},
		{Bags: []int{1, 2}, Parent: []int{-1, 2}},
		{Bags: []int{1, 2}, Parent: []int{0, 0}},
		{Bags: []int{1, 2}, Parent: []int{1, -1}},
		{Bags: []int{1, 2, 4}, Parent: []int{-1, 2, 1}},
		{Bags: []int{1, 2}, Parent: []int{-1, math.MaxInt}},
		{Bags: []int{1, 2}, Parent: []int{-1, math.MinInt}},
		{Bags: make([]int, 21), Parent: append([]int{-1}, make([]int, 20)...)},
	}
	for _, set := range strangeNumbers() {
		trees = append(trees, impl.Tree{Bags: []int{set}, Parent: []int{-1}}, impl.Tree{Bags: []int{1, set}, Parent: []int{-1, 0}})
	}
	return trees
}

func sameTree(a, b impl.Tree) bool {
	return slices.Equal(a.Bags, b.Bags) && slices.Equal(a.Parent, b.Parent)
}

// isConnectedBy reports whether the bags with a vertex are one part if each is joined with its parent.
func isConnectedBy(t impl.Tree, v int) bool {
	var reached []int
	for i, bag := range t.Bags {
		if bag>>v&1 == 1 {
			reached = append(reached, i)
			break
		}
	}
	for k := 0; k < len(reached); k++ {
		for i, bag := range t.Bags {
			if bag>>v&1 == 1 && !slices.Contains(reached, i) && (t.Parent[i] == reached[k] || t.Parent[reached[k]] == i) {
				reached = append(reached, i)
			}
		}
	}
	for i, bag := range t.Bags {
		if bag>>v&1 == 1 && !slices.Contains(reached, i) {
			return false
		}
	}
	return true
}

// grownTree adds the cliques as CliqueTreeOf says, each time comparing all pairs of a bag and a clique.
func grownTree(cliques []int) impl.Tree {
	tree := impl.Tree{Bags: cliques[:1:1], Parent: []int{-1}}
	for len(tree.Bags) < len(cliques) {
		clique, parent, most := 0, -1, -1
		for i, bag := range tree.Bags {
			for _, c := range cliques {
				if n := len(members(bag & c)); !slices.Contains(tree.Bags, c) && n > most {
					clique, parent, most = c, i, n
				}
			}
		}
		tree.Bags = append(tree.Bags, clique)
		tree.Parent = append(tree.Parent, parent)
	}
	return tree
}

// separates reports whether a and b exist outside a set and have no way between them there.
func separates(g impl.Graph, set, a, b int) bool {
	outside := (1<<g.Size - 1) &^ set
	return outside>>a&1 == 1 && outside>>b&1 == 1 && !reachable(g, outside)[a][b]
}

// isLeastSeparator reports whether a set separates two vertices which it would not without any one of its own.
func isLeastSeparator(g impl.Graph, set int) bool {
	for a := range g.Size {
		for b := range a {
			least := separates(g, set, a, b)
			for _, v := range members(set) {
				least = least && !separates(g, set&^(1<<v), a, b)
			}
			if least {
				return true
			}
		}
	}
	return false
}

func TestIsTree(t *testing.T) {
	for n := 1; n <= 20; n++ {
		for _, step := range []int{1, 2, 20} {
			tree := impl.Tree{Bags: make([]int, n), Parent: make([]int, n)}
			for i := range n {
				tree.Bags[i] = (i * 37) % 128
				tree.Parent[i] = max(i-step, min(i, 1)-1)
			}
			if !impl.IsTree(tree) {
				t.Errorf("IsTree(%v) is false", tree)
			}
		}
	}
	for _, bag := range []int{0, 1, 127} {
		if !impl.IsTree(impl.Tree{Bags: []int{bag}, Parent: []int{-1}}) {
			t.Errorf("IsTree refuses the bag %d", bag)
		}
	}
	for _, tree := range invalidTrees() {
		if impl.IsTree(tree) {
			t.Errorf("IsTree(%v) is true", tree)
		}
	}
}

func TestIsCliqueTree(t *testing.T) {
	eachPartGraph(func(g impl.Graph) {
		cliques := maximalIn(g)
		if len(cliques) > 4 {
			return
		}
		eachList(len(cliques), len(cliques), func(order []int) bool {
			bags := make([]int, len(order))
			for i, k := range order {
				bags[i] = cliques[k]
			}
			eachParents(len(bags), func(parent []int) { checkCliqueTree(t, g, impl.Tree{Bags: bags, Parent: parent}) })
			return true
		})
	})
}

// eachParents visits all lists of parents before their children.
func eachParents(n int, visit func([]int)) {
	lists := [][]int{{-1}}
	for i := 1; i < n; i++ {
		var longer [][]int
		for _, l := range lists {
			for parent := range i {
				longer = append(longer, append(slices.Clone(l), parent))
			}
		}
		lists = longer
	}
	for _, l := range lists {
		visit(l)
	}
}

func checkCliqueTree(t *testing.T, g impl.Graph, tree impl.Tree) {
	t.Helper()
	want := true
	for v := range g.Size {
		want = want && isConnectedBy(tree, v)
	}
	if impl.IsCliqueTree(g, tree) != want {
		t.Errorf("IsCliqueTree(%v, %v) is %t", g, tree, !want)
	}
	if want && hasHole(g) {
		t.Errorf("%v has a hole and the clique tree %v", g, tree)
	}
}

func TestIsCliqueTreeWantsTheMaximalCliques(t *testing.T) {
	g := graphFrom(t, "5: 01 02 12 13 34")
	for _, tree := range []impl.Tree{
		{Bags: []int{7, 10}, Parent: []int{-1, 0}},
		{Bags: []int{7, 10, 24, 24}, Parent: []int{-1, 0, 1, 2}},
		{Bags: []int{7, 10, 24, 8}, Parent: []int{-1, 0, 1, 1}},
		{Bags: []int{3, 10, 24}, Parent: []int{-1, 0, 1}},
		{Bags: []int{7, 10, 16}, Parent: []int{-1, 0, 1}},
		{Bags: []int{7, 10, 24, 0}, Parent: []int{-1, 0, 1, 0}},
		{Bags: []int{7, 7, 10, 24}, Parent: []int{-1, 0, 0, 2}},
		{Bags: []int{39, 10, 24}, Parent: []int{-1, 0, 1}},
	} {
		if impl.IsCliqueTree(g, tree) {
			t.Errorf("IsCliqueTree accepts %v", tree)
		}
	}
	for _, tree := range invalidTrees() {
		if impl.IsCliqueTree(g, tree) || impl.IsCliqueTree(impl.Graph{Size: 1, Rows: []int{0}}, tree) {
			t.Errorf("IsCliqueTree accepts %v", tree)
		}
	}
}

func TestCliqueTreeOf(t *testing.T) {
	eachGraph(func(g impl.Graph) {
		got, ok := impl.CliqueTreeOf(g)
		if hasHole(g) {
			if ok || !sameTree(got, impl.Tree{}) {
				t.Errorf("CliqueTreeOf(%v) = %v, %t", g, got, ok)
			}
			return
		}
		if want := grownTree(maximalIn(g)); !ok || !sameTree(got, want) {
			t.Errorf("CliqueTreeOf(%v) = %v, %t, want %v", g, got, ok, want)
		}
		if !impl.IsTree(got) || !impl.IsCliqueTree(g, got) {
			t.Errorf("CliqueTreeOf(%v) = %v is none", g, got)
		}
	})
}

func TestChordalGraphIsTheGraphOfItsCliqueTree(t *testing.T) {
	eachGraph(func(g impl.Graph) {
		tree, ok := impl.CliqueTreeOf(g)
		if !ok {
			return
		}
		back, ok := impl.GraphOfTree(tree, g.Size)
		checkGraph(t, "GraphOfTree of CliqueTreeOf", back, ok, g, true)
		if got, want := impl.TreeSeparators(tree), impl.SeparatorsOf(g); !slices.Equal(got, want) {
			t.Errorf("TreeSeparators(%v) = %v, want %v", tree, got, want)
		}
	})
}

func TestMinimalSeparators(t *testing.T) {
	check := func(g impl.Graph) {
		var want []int
		eachSet(g, func(set int) {
			least := isLeastSeparator(g, set)
			if least {
				want = append(want, set)
			}
			if impl.IsMinimalSeparator(g, set) != least {
				t.Errorf("IsMinimalSeparator(%v, %d) is %t", g, set, !least)
			}
		})
		if got := impl.SeparatorsOf(g); !slices.Equal(got, want) {
			t.Errorf("SeparatorsOf(%v) = %v, want %v", g, got, want)
		}
	}
	eachPartGraph(check)
	check(graphFrom(t, "6: 01 02 03 14 24 35 45"))
	check(graphFrom(t, "7: 01 02 12 34 45 46"))
}

func TestTreeSeparators(t *testing.T) {
	cases := []struct {
		tree impl.Tree
		want []int
	}{
		{impl.Tree{Bags: []int{7}, Parent: []int{-1}}, nil},
		{impl.Tree{Bags: []int{7, 10, 24}, Parent: []int{-1, 0, 1}}, []int{2, 8}},
		{impl.Tree{Bags: []int{24, 10, 7}, Parent: []int{-1, 0, 1}}, []int{2, 8}},
		{impl.Tree{Bags: []int{7, 10, 24}, Parent: []int{-1, 0, 0}}, []int{0, 2}},
		{impl.Tree{Bags: []int{96, 97, 98, 100}, Parent: []int{-1, 0, 0, 2}}, []int{96}},
		{impl.Tree{Bags: []int{0, 127, 127}, Parent: []int{-1, 0, 1}}, []int{0, 127}},
	}
	for _, c := range cases {
		if got := impl.TreeSeparators(c.tree); !slices.Equal(got, c.want) {
			t.Errorf("TreeSeparators(%v) = %v, want %v", c.tree, got, c.want)
		}
	}
}

func TestGraphOfTree(t *testing.T) {
	tree := impl.Tree{Bags: []int{7, 0, 10, 24, 7}, Parent: []int{-1, 0, 1, 1, 3}}
	for n, text := range map[int]string{5: "5: 01 02 12 13 34", 6: "6: 01 02 12 13 34", 7: "7: 01 02 12 13 34"} {
		g, ok := impl.GraphOfTree(tree, n)
		checkGraph(t, "GraphOfTree", g, ok, graphFrom(t, text), true)
	}
	for _, n := range append(strangeNumbers(), 0, 1, 4, 8) {
		g, ok := impl.GraphOfTree(tree, n)
		checkNoGraph(t, "GraphOfTree", g, ok)
	}
	for n := 1; n <= 7; n++ {
		g, ok := impl.GraphOfTree(impl.Tree{Bags: []int{1<<n - 1}, Parent: []int{-1}}, n)
		checkGraph(t, "GraphOfTree", g, ok, named(t, "complete", n), true)
		g, ok = impl.GraphOfTree(impl.Tree{Bags: []int{0}, Parent: []int{-1}}, n)
		checkGraph(t, "GraphOfTree", g, ok, named(t, "empty", n), true)
		g, ok = impl.GraphOfTree(impl.Tree{Bags: []int{1, 1 << n & 127}, Parent: []int{-1, 0}}, n)
		checkGraph(t, "GraphOfTree", g, ok, map[bool]impl.Graph{true: named(t, "empty", 7)}[n == 7], n == 7)
	}
}

func TestFormatTree(t *testing.T) {
	cases := map[string]impl.Tree{
		"012 0>13 1>34": {Bags: []int{7, 10, 24}, Parent: []int{-1, 0, 1}},
		"- 0>-":         {Bags: []int{0, 0}, Parent: []int{-1, 0}},
		"0123456":       {Bags: []int{127}, Parent: []int{-1}},
		"6 0>0 0>5 2>1": {Bags: []int{64, 1, 32, 2}, Parent: []int{-1, 0, 0, 2}},
		"- 0>0 1>1 2>01 3>2 4>02 5>12 6>012 7>3 8>03 9>13 10>013 11>23 12>023 13>123 14>0123 15>4 16>04 17>14 18>014": {
			Bags:   []int{0, 1, 2, 3, 4, 5, 6, 7, 8, 9, 10, 11, 12, 13, 14, 15, 16, 17, 18, 19},
			Parent: []int{-1, 0, 1, 2, 3, 4, 5, 6, 7, 8, 9, 10, 11, 12, 13, 14, 15, 16, 17, 18},
		},
	}
	for want, tree := range cases {
		if got := impl.FormatTree(tree); got != want {
			t.Errorf("FormatTree(%v) = %q, want %q", tree, got, want)
		}
	}
}

func TestEqualTrees(t *testing.T) {
	trees := append(invalidTrees(), impl.Tree{Bags: []int{1, 2}, Parent: []int{-1, 0}}, impl.Tree{Bags: []int{2, 1}, Parent: []int{-1, 0}})
	for i, a := range trees {
		for j, b := range trees {
			if impl.EqualTrees(a, b) != sameTree(a, b) {
				t.Errorf("EqualTrees of %d and %d is %t", i, j, impl.EqualTrees(a, b))
			}
		}
	}
	if !impl.EqualTrees(impl.Tree{}, impl.Tree{Bags: []int{}, Parent: []int{}}) {
		t.Error("a nil list differs from an empty one")
	}
}

func TestCliqueAlone(t *testing.T) {
	for n := 1; n <= 7; n++ {
		g := named(t, "complete", n)
		tree, ok := impl.CliqueTreeOf(g)
		if !ok || !sameTree(tree, impl.Tree{Bags: []int{1<<n - 1}, Parent: []int{-1}}) || !impl.IsCliqueTree(g, tree) {
			t.Errorf("CliqueTreeOf(%v) = %v, %t", g, tree, ok)
		}
		if impl.FormatTree(tree) != "0123456"[:n] || len(impl.TreeSeparators(tree)) != 0 || len(impl.SeparatorsOf(g)) != 0 {
			t.Errorf("%v has the separators %v", tree, impl.SeparatorsOf(g))
		}
		eachSet(g, func(set int) {
			if impl.IsMinimalSeparator(g, set) {
				t.Errorf("IsMinimalSeparator(%v, %d) is true", g, set)
			}
		})
	}
}

func TestCliqueTreeOfSeveralParts(t *testing.T) {
	g := graphFrom(t, "7: 05 14 15 45")
	tree, ok := impl.CliqueTreeOf(g)
	if s := impl.FormatTree(tree); !ok || s != "2 0>3 0>05 2>145 0>6" {
		t.Errorf("CliqueTreeOf = %q, %t", s, ok)
	}
	if s := impl.SeparatorsOf(g); !slices.Equal(s, []int{0, 32}) || !slices.Equal(impl.TreeSeparators(tree), s) {
		t.Errorf("SeparatorsOf = %v, TreeSeparators = %v", s, impl.TreeSeparators(tree))
	}
}

func TestCliqueTreeFunctionsRefuseInvalidArguments(t *testing.T) {
	tree := impl.Tree{Bags: []int{1}, Parent: []int{-1}}
	for _, g := range invalidGraphs() {
		got, ok := impl.CliqueTreeOf(g)
		if ok || !sameTree(got, impl.Tree{}) || impl.IsCliqueTree(g, tree) {
			t.Errorf("CliqueTreeOf(%v) = %v, %t", g, got, ok)
		}
		for set := range 4 {
			if impl.IsMinimalSeparator(g, set) || len(impl.SeparatorsOf(g)) != 0 {
				t.Errorf("%v has separators", g)
			}
		}
	}
	for _, set := range append(strangeNumbers(), 4, 8) {
		if impl.IsMinimalSeparator(graphFrom(t, "2:"), set) {
			t.Errorf("IsMinimalSeparator accepts %d", set)
		}
	}
	for _, tree := range invalidTrees() {
		if s := impl.FormatTree(tree); s != "" || len(impl.TreeSeparators(tree)) != 0 {
			t.Errorf("FormatTree(%v) = %q", tree, s)
		}
		for n := range 9 {
			g, ok := impl.GraphOfTree(tree, n)
			checkNoGraph(t, "GraphOfTree", g, ok)
		}
	}
}

func TestCliqueTreeFunctionsLeaveArgumentsAlone(t *testing.T) {
	g, checkRows := guardedGraph(graphFrom(t, "5: 01 02 12 13 34"))
	bags, checkBags := guarded([]int{24, 10, 7})
	parent, checkParent := guarded([]int{-1, 0, 1})
	tree := impl.Tree{Bags: bags, Parent: parent}
	impl.IsTree(tree)
	impl.IsCliqueTree(g, tree)
	impl.IsMinimalSeparator(g, 2)
	impl.FormatTree(tree)
	impl.EqualTrees(tree, tree)
	made, _ := impl.CliqueTreeOf(g)
	h, _ := impl.GraphOfTree(tree, 5)
	checkApart(t, "results", g.Rows, bags, parent, made.Bags, made.Parent, h.Rows, impl.SeparatorsOf(g), impl.TreeSeparators(tree))
	checkRows(t, "a function of chapter 8")
	checkBags(t, "a function of chapter 8")
	checkParent(t, "a function of chapter 8")
}

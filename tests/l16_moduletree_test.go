package tests

import (
	"math"
	"slices"
	"testing"

	"loop.example/g02081/impl"
)

func sameModuleTree(a, b impl.ModuleTree) bool {
	return slices.Equal(a.Sets, b.Sets) && slices.Equal(a.Kinds, b.Kinds) && slices.Equal(a.Parents, b.Parents)
}

func copyOfModuleTree(t impl.ModuleTree) impl.ModuleTree {
	return impl.ModuleTree{Sets: slices.Clone(t.Sets), Kinds: slices.Clone(t.Kinds), Parents: slices.Clone(t.Parents)}
}

// without is the graph of all other edges.
func without(g impl.Graph) impl.Graph {
	other := impl.Graph{Size: g.Size, Rows: make([]int, g.Size)}
	for v, row := range g.Rows {
		other.Rows[v] = (1<<g.Size - 1) &^ row &^ (1 << v)
	}
	return other
}

func kindIn(g impl.Graph, set int) int {
	switch {
	case !isModuleIn(g, set):
		return -1
	case len(members(set)) == 1:
		return 0
	case len(partsIn(g, set)) > 1:
		return 1
	case len(partsIn(without(g), set)) > 1:
		return 2
	}
	return 3
}

// moduleTreeIn lists the strong modules by their numbers of vertices, 7 first.
func moduleTreeIn(g impl.Graph) impl.ModuleTree {
	var tree impl.ModuleTree
	for n := 7; n >= 1; n-- {
		for _, set := range strongIn(g) {
			if len(members(set)) != n {
				continue
			}
			parent := -1
			for i, larger := range tree.Sets {
				if larger&set == set && larger != set && (parent < 0 || len(members(larger)) < len(members(tree.Sets[parent]))) {
					parent = i
				}
			}
			tree.Sets = append(tree.Sets, set)
			tree.Kinds = append(tree.Kinds, kindIn(g, set))
			tree.Parents = append(tree.Parents, parent)
		}
	}
	return tree
}

func moduleTreeOf(t *testing.T, text string) impl.ModuleTree {
	t.Helper()
	tree, ok := impl.ModuleTreeOf(graphFrom(t, text))
	if !ok {
		t.Fatalf("ModuleTreeOf(%q) fails", text)
	}
	return tree
}

// invalidModuleTrees breaks each rule of DepthOf by itself.
func invalidModuleTrees() []impl.ModuleTree {
	trees := []impl.ModuleTree{
		{},
		{Sets: []int{1}},
		{Kinds: []int{0}},
		{Parents: []int{-1}},
		{Kinds: []int{0}, Parents: []int{-1}},
		{Sets: []int{1}, Parents: []int{-1}},
		{Sets: []int{1}, Kinds: []int{0}},
		{Sets: []int{3, 1}, Kinds: []int{1, 0}, Parents: []int{-1}},
		{Sets: []int{3, 1}, Kinds: []int{1}, Parents: []int{-1, 0}},
		{Sets: []int{3}, Kinds: []int{1, 0}, Parents: []int{-1, 0}},
		{Sets: make([]int, 21), Kinds: make([]int, 21), Parents: append([]int{-1}, make([]int, 20)...)},
	}
	for _, n := range strangeNumbers() {
		trees = append(trees,
			impl.ModuleTree{Sets: []int{n}, Kinds: []int{0}, Parents: []int{-1}},
			impl.ModuleTree{Sets: []int{3, n}, Kinds: []int{1, 0}, Parents: []int{-1, 0}},
			impl.ModuleTree{Sets: []int{3, 1}, Kinds: []int{1, n}, Parents: []int{-1, 0}},
			impl.ModuleTree{Sets: []int{3, 1}, Kinds: []int{n, 0}, Parents: []int{-1, 0}},
			impl.ModuleTree{Sets: []int{3, 1}, Kinds: []int{1, 0}, Parents: []int{-1, n}})
	}
	for _, parents := range [][]int{{0, 0}, {-2, 0}, {1, 0}, {math.MinInt, 0}, {-1, 1}, {-1, 2}, {-1, -1}} {
		trees = append(trees, impl.ModuleTree{Sets: []int{3, 1}, Kinds: []int{1, 0}, Parents: parents})
	}
	for _, kind := range []int{4, 5, 7} {
		trees = append(trees, impl.ModuleTree{Sets: []int{3}, Kinds: []int{kind}, Parents: []int{-1}})
	}
	return trees
}

func TestKindOf(t *testing.T) {
	if impl.KindSingle != 0 || impl.KindParallel != 1 || impl.KindSeries != 2 || impl.KindPrime != 3 {
		t.Error("a kind has another number")
	}
	eachGraph(func(g impl.Graph) {
		eachSet(g, func(set int) {
			if got, want := impl.KindOf(g, set), kindIn(g, set); got != want {
				t.Errorf("KindOf(%v, %d) = %d, want %d", g, set, got, want)
			}
		})
	})
}

func TestModuleTreeOf(t *testing.T) {
	eachGraph(func(g impl.Graph) {
		want := moduleTreeIn(g)
		got, ok := impl.ModuleTreeOf(g)
		if !ok || !sameModuleTree(got, want) {
			t.Errorf("ModuleTreeOf(%v) = %v, %t, want %v", g, got, ok, want)
		}
		if !impl.IsModuleTree(g, got) || impl.DepthOf(got) < 0 {
			t.Errorf("ModuleTreeOf(%v) = %v is none", g, got)
		}
	})
}

func TestModuleTreeHasLeavesAndChildrenMakeUpNodes(t *testing.T) {
	eachGraph(func(g impl.Graph) {
		tree, _ := impl.ModuleTreeOf(g)
		var leaves []int
		for i, set := range tree.Sets {
			children := impl.ChildrenOf(tree, i)
			if len(children) == 0 {
				leaves = append(leaves, set)
				continue
			}
			union := 0
			for _, child := range children {
				if tree.Sets[child]&union != 0 {
					t.Errorf("children of %d in %v have a vertex twice", i, tree)
				}
				union |= tree.Sets[child]
			}
			if union != set || len(children) < 2 {
				t.Errorf("the children %v do not make up %d in %v", children, i, tree)
			}
		}
		slices.Sort(leaves)
		var single []int
		for v := range g.Size {
			single = append(single, 1<<v)
		}
		if !slices.Equal(leaves, single) || tree.Sets[0] != 1<<g.Size-1 {
			t.Errorf("ModuleTreeOf(%v) = %v has the leaves %v", g, tree, leaves)
		}
	})
}

func TestIsModuleTree(t *testing.T) {
	for _, text := range []string{"1:", "2: 01", "5: 01 02 12 13 34", "7: 01 02 12 34 45"} {
		g, tree := graphFrom(t, text), moduleTreeOf(t, text)
		for i := range tree.Sets {
			for _, change := range []func(impl.ModuleTree){
				func(x impl.ModuleTree) { x.Sets[i] ^= 1 },
				func(x impl.ModuleTree) { x.Kinds[i] ^= 1 },
				func(x impl.ModuleTree) { x.Parents[i]++ },
			} {
				changed := copyOfModuleTree(tree)
				if change(changed); impl.IsModuleTree(g, changed) || impl.EqualModuleTrees(changed, tree) {
					t.Errorf("IsModuleTree(%v, %v) is true", g, changed)
				}
			}
		}
		for _, other := range invalidModuleTrees() {
			if impl.IsModuleTree(g, other) {
				t.Errorf("IsModuleTree(%v, %v) is true", g, other)
			}
		}
	}
}

func TestChildrenOf(t *testing.T) {
	trees := append(invalidModuleTrees(), moduleTreeOf(t, "5: 01 02 12 13 34"), impl.ModuleTree{Parents: []int{-1, 0, 5, 0, 3, 3, 70, 5}})
	for _, tree := range trees {
		for _, i := range append(strangeNumbers(), 0, 1, 2, 3, 4, 5, 6, 70) {
			var want []int
			for child := range tree.Parents {
				if tree.Parents[child] == i {
					want = append(want, child)
				}
			}
			if got := impl.ChildrenOf(tree, i); !slices.Equal(got, want) {
				t.Errorf("ChildrenOf(%v, %d) = %v, want %v", tree, i, got, want)
			}
		}
	}
}

func TestDepthOf(t *testing.T) {
	for n := 1; n <= 20; n++ {
		chain := impl.ModuleTree{Sets: make([]int, n), Kinds: make([]int, n), Parents: make([]int, n)}
		star := copyOfModuleTree(chain)
		binary := copyOfModuleTree(chain)
		depth := 0
		for i := range n {
			chain.Sets[i], chain.Kinds[i] = 127-i, i%4
			chain.Parents[i] = i - 1
			star.Parents[i] = min(i, 1) - 1
			binary.Parents[i] = (i+1)/2 - 1
		}
		for i := n; i > 1; i /= 2 {
			depth++
		}
		if a, b, c := impl.DepthOf(chain), impl.DepthOf(star), impl.DepthOf(binary); a != n-1 || b != min(n, 2)-1 || c != depth {
			t.Errorf("DepthOf a chain, a star and a binary tree of %d = %d, %d, %d", n, a, b, c)
		}
	}
	for text, want := range map[string]int{"1:": 0, "2:": 1, "2: 01": 1, "4: 01 23": 2, "3: 01": 2, "7: 01 12 23 34 45 56": 1, "7: 01 02 03 04 05 06 12 13 14 15 23 24": 6} {
		if got := impl.DepthOf(moduleTreeOf(t, text)); got != want {
			t.Errorf("DepthOf the tree of %q = %d, want %d", text, got, want)
		}
	}
}

func TestFormatModuleTree(t *testing.T) {
	for text, want := range map[string]string{
		"1:":                                  "single",
		"3: 01":                               "012parallel 01series",
		"3: 01 02 12":                         "012series",
		"4: 01 12 23":                         "0123prime",
		"4: 01 02 13 23":                      "0123series 12parallel 03parallel",
		"5: 01 02 12 13 34":                   "01234prime 02series",
		"7: 01 02 12 34 45":                   "0123456parallel 012series 345series 35parallel",
		"7: 01 02 03 04 05 06 12 23 24 35 46": "0123456series 123456prime",
	} {
		if got := impl.FormatModuleTree(moduleTreeOf(t, text)); got != want {
			t.Errorf("FormatModuleTree of %q = %q, want %q", text, got, want)
		}
	}
	tree := impl.ModuleTree{Sets: []int{0, 127, 5, 1}, Kinds: []int{3, 0, 2, 1}, Parents: []int{-1, 0, 1, 1}}
	if got := impl.FormatModuleTree(tree); got != "-prime 02series 0parallel" {
		t.Errorf("FormatModuleTree = %q", got)
	}
	tree = impl.ModuleTree{Sets: []int{3, 1, 2}, Kinds: []int{0, 0, 0}, Parents: []int{-1, 0, 0}}
	if got := impl.FormatModuleTree(tree); got != "single" {
		t.Errorf("FormatModuleTree = %q", got)
	}
}

func TestEqualModuleTrees(t *testing.T) {
	trees := append(invalidModuleTrees(), moduleTreeOf(t, "2:"), moduleTreeOf(t, "2: 01"), moduleTreeOf(t, "4: 01 23"), moduleTreeOf(t, "4: 02 13"))
	for i, a := range trees {
		for j, b := range trees {
			if impl.EqualModuleTrees(a, b) != sameModuleTree(a, b) {
				t.Errorf("EqualModuleTrees of %d and %d is %t", i, j, impl.EqualModuleTrees(a, b))
			}
		}
	}
	if !impl.EqualModuleTrees(impl.ModuleTree{}, impl.ModuleTree{Sets: []int{}, Kinds: []int{}, Parents: []int{}}) {
		t.Error("a nil list differs from an empty one")
	}
}

func TestModuleTreeOfTwoVertices(t *testing.T) {
	for text, kind := range map[string]int{"2:": impl.KindParallel, "2: 01": impl.KindSeries} {
		tree := moduleTreeOf(t, text)
		if want := (impl.ModuleTree{Sets: []int{3, 1, 2}, Kinds: []int{kind, 0, 0}, Parents: []int{-1, 0, 0}}); !sameModuleTree(tree, want) {
			t.Errorf("ModuleTreeOf(%q) = %v", text, tree)
		}
		word := map[int]string{impl.KindParallel: "01parallel", impl.KindSeries: "01series"}[kind]
		if impl.FormatModuleTree(tree) != word || impl.DepthOf(tree) != 1 || !slices.Equal(impl.ChildrenOf(tree, 0), []int{1, 2}) || len(impl.ChildrenOf(tree, 1)) != 0 {
			t.Errorf("the tree of %q is %q", text, impl.FormatModuleTree(tree))
		}
	}
}

func TestModuleTreeFunctionsRefuseInvalidArguments(t *testing.T) {
	for _, g := range invalidGraphs() {
		tree, ok := impl.ModuleTreeOf(g)
		if ok || !sameModuleTree(tree, impl.ModuleTree{}) || impl.IsModuleTree(g, tree) {
			t.Errorf("ModuleTreeOf(%v) = %v, %t", g, tree, ok)
		}
		for set := range 9 {
			if impl.KindOf(g, set) != -1 {
				t.Errorf("KindOf(%v, %d) = %d", g, set, impl.KindOf(g, set))
			}
		}
	}
	for _, set := range append(strangeNumbers(), 0, 4, 8) {
		if kind := impl.KindOf(graphFrom(t, "2:"), set); kind != -1 {
			t.Errorf("KindOf the set %d = %d", set, kind)
		}
	}
	for _, tree := range invalidModuleTrees() {
		if impl.DepthOf(tree) != -1 || impl.FormatModuleTree(tree) != "" {
			t.Errorf("DepthOf(%v) = %d", tree, impl.DepthOf(tree))
		}
	}
}

func TestModuleTreeFunctionsLeaveArgumentsAlone(t *testing.T) {
	for _, plain := range append(invalidModuleTrees(), moduleTreeOf(t, "5: 01 02 12 13 34")) {
		g, checkRows := guardedGraph(graphFrom(t, "5: 01 02 12 13 34"))
		sets, checkSets := guarded(plain.Sets)
		kinds, checkKinds := guarded(plain.Kinds)
		parents, checkParents := guarded(plain.Parents)
		tree := impl.ModuleTree{Sets: sets, Kinds: kinds, Parents: parents}
		impl.KindOf(g, 5)
		impl.IsModuleTree(g, tree)
		impl.DepthOf(tree)
		impl.FormatModuleTree(tree)
		impl.EqualModuleTrees(tree, tree)
		made, _ := impl.ModuleTreeOf(g)
		checkApart(t, "results", g.Rows, sets, kinds, parents, made.Sets, made.Kinds, made.Parents, impl.ChildrenOf(tree, 0))
		checkRows(t, "a function of chapter 16")
		checkSets(t, "a function of chapter 16")
		checkKinds(t, "a function of chapter 16")
		checkParents(t, "a function of chapter 16")
	}
}

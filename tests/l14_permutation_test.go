package tests

import (
	"slices"
	"testing"

	"loop.example/g02081/impl"
)

// noPermutations breaks each rule of IsPermutation by itself.
func noPermutations() [][]int {
	lists := [][]int{nil, {}, {1}, {-1}, {0, 0}, {1, 1}, {1, 2}, {0, 2}, {0, 1, 3}, {0, 1, 2, 2}, {0, 1, -1}, {0, 1, 64}, {0, 1, 2, 3, 4, 5, 6, 7}, {1, 2, 3, 4, 5, 6, 7}, make([]int, 100)}
	for _, n := range strangeNumbers() {
		lists = append(lists, []int{n}, []int{0, n}, []int{n, 0})
	}
	return lists
}

func eachPermutation(visit func(p []int)) {
	for n := 1; n <= 5; n++ {
		eachList(n, n, func(p []int) bool { visit(p); return true })
	}
	count := 0
	for n := 6; n <= 7; n++ {
		eachList(n, n, func(p []int) bool {
			if count%53 == 0 {
				visit(p)
			}
			count++
			return true
		})
	}
}

func graphOfNumbers(p []int) impl.Graph {
	g := impl.Graph{Size: len(p), Rows: make([]int, len(p))}
	for i := range p {
		for j := range p {
			if i < j && p[i] > p[j] || i > j && p[i] < p[j] {
				g.Rows[i] |= 1 << j
			}
		}
	}
	return g
}

// standsAs compares the places of any two vertices in both orders with whether they are neighbors.
func standsAs(g impl.Graph, a, b []int) bool {
	for v := range g.Size {
		for w := range g.Size {
			opposite := slices.Index(a, v) < slices.Index(a, w) && slices.Index(b, w) < slices.Index(b, v)
			if opposite && !joined(g, v, w) || joined(g, v, w) && !opposite && slices.Index(a, v) < slices.Index(a, w) {
				return false
			}
		}
	}
	return true
}

// orderAlongArcs is the only order in which each arc leads to a later vertex, found by trying all.
func orderAlongArcs(n int, arc func(v, w int) bool) []int {
	order, _ := firstList(impl.Graph{Size: n}, n, func(_ impl.Graph, l []int) bool {
		for j := range l {
			for i := range j {
				if !arc(l[i], l[j]) {
					return false
				}
			}
		}
		return true
	})
	return order
}

func permutationModelIn(g impl.Graph) ([]int, []int, bool) {
	other := impl.Graph{Size: g.Size, Rows: make([]int, g.Size)}
	for v, row := range g.Rows {
		other.Rows[v] = (1<<g.Size - 1) &^ row &^ (1 << v)
	}
	to, ok := orientedIn(g)
	beside, okBeside := orientedIn(other)
	if !ok || !okBeside {
		return nil, nil, false
	}
	a := orderAlongArcs(g.Size, func(v, w int) bool { return leads(to, v, w) || leads(beside, v, w) })
	b := orderAlongArcs(g.Size, func(v, w int) bool { return leads(to, w, v) || leads(beside, v, w) })
	return a, b, true
}

// longestIn goes through all lists of indices, the longer ones first.
func longestIn(p []int, follows func(x, y int) bool) []int {
	for n := len(p); n >= 1; n-- {
		l, ok := firstList(impl.Graph{Size: len(p)}, n, func(_ impl.Graph, l []int) bool {
			for i := 1; i < len(l); i++ {
				if l[i-1] >= l[i] || !follows(p[l[i-1]], p[l[i]]) {
					return false
				}
			}
			return true
		})
		if ok {
			return l
		}
	}
	return nil
}

func TestIsPermutationAndGraphOfPermutation(t *testing.T) {
	eachPermutation(func(p []int) {
		g, ok := impl.GraphOfPermutation(p)
		checkGraph(t, "GraphOfPermutation", g, ok, graphOfNumbers(p), true)
		if !impl.IsPermutation(p) {
			t.Errorf("IsPermutation(%v) is false", p)
		}
		for i := range p {
			changed := slices.Clone(p)
			changed[i]++
			if impl.IsPermutation(changed) || len(p) > 1 && impl.IsPermutation(p[1:]) != (p[0] == len(p)-1) {
				t.Errorf("IsPermutation accepts %v or %v", changed, p[1:])
			}
		}
	})
}

func TestIsPermutationModel(t *testing.T) {
	check := func(g impl.Graph, a, b []int) bool {
		want := standsAs(g, a, b)
		if impl.IsPermutationModel(g, a, b) != want {
			t.Errorf("IsPermutationModel(%v, %v, %v) is %t", g, a, b, !want)
		}
		return want
	}
	for n := 1; n <= 4; n++ {
		eachGraphOf(n, func(g impl.Graph) {
			found := false
			eachList(n, n, func(a []int) bool {
				eachList(n, n, func(b []int) bool {
					found = check(g, a, b) || found
					return true
				})
				return true
			})
			if impl.IsPermutationGraph(g) != found {
				t.Errorf("IsPermutationGraph(%v) is %t", g, !found)
			}
		})
	}
	eachPermutation(func(p []int) {
		order := members(1<<len(p) - 1)
		g := graphOfNumbers(p)
		places := make([]int, len(p))
		for i, n := range p {
			places[n] = i
		}
		if !check(g, order, places) {
			t.Errorf("%v and %v are no model of %v", order, places, g)
		}
		check(g, order, p)
		check(g, p, order)
	})
}

func TestPermutationModelOf(t *testing.T) {
	eachGraph(func(g impl.Graph) {
		wantA, wantB, wantOk := permutationModelIn(g)
		a, b, ok := impl.PermutationModelOf(g)
		checkList(t, "PermutationModelOf "+formatted(g), a, ok, wantA, wantOk)
		checkList(t, "PermutationModelOf "+formatted(g), b, ok, wantB, wantOk)
		if impl.IsPermutationGraph(g) != wantOk || impl.IsPermutationModel(g, a, b) != wantOk {
			t.Errorf("%v has the model %v and %v", g, a, b)
		}
	})
	eachPermutation(func(p []int) {
		if g := graphOfNumbers(p); !impl.IsPermutationGraph(g) {
			t.Errorf("IsPermutationGraph(%v) is false", g)
		}
	})
}

func TestPermutationGraphMeansTwoTransitiveOrientations(t *testing.T) {
	counts := make([]int, 6)
	for n := 1; n <= 5; n++ {
		eachGraphOf(n, func(g impl.Graph) {
			complement, _ := impl.ComplementOf(g)
			want := hasTransitive(g) && hasTransitive(complement)
			if impl.IsPermutationGraph(g) != want {
				t.Errorf("IsPermutationGraph(%v) is %t", g, !want)
			}
			if want {
				counts[n]++
			}
		})
	}
	// Of 5 vertices, only the 12 circles are no permutation graphs.
	if !slices.Equal(counts, []int{0, 1, 2, 8, 64, 1012}) {
		t.Errorf("numbers of permutation graphs: %v", counts)
	}
	for _, text := range []string{"6: 01 05 12 23 34 45", "7: 01 02 03 14 25 36", "6: 01 02 03 12 14 25"} {
		if impl.IsPermutationGraph(graphFrom(t, text)) {
			t.Errorf("%q counts as a permutation graph", text)
		}
	}
}

func TestLongestLists(t *testing.T) {
	eachPermutation(func(p []int) {
		want := longestIn(p, func(x, y int) bool { return x > y })
		if got := impl.LongestDecreasing(p); !slices.Equal(got, want) {
			t.Errorf("LongestDecreasing(%v) = %v, want %v", p, got, want)
		}
		want = longestIn(p, func(x, y int) bool { return x < y })
		if got := impl.LongestIncreasing(p); !slices.Equal(got, want) {
			t.Errorf("LongestIncreasing(%v) = %v, want %v", p, got, want)
		}
	})
	p := []int{2, 5, 1, 6, 0, 4, 3}
	if down, up := impl.LongestDecreasing(p), impl.LongestIncreasing(p); !slices.Equal(down, []int{0, 2, 4}) || !slices.Equal(up, []int{0, 1, 3}) {
		t.Errorf("LongestDecreasing = %v, LongestIncreasing = %v", down, up)
	}
}

func TestPermutationOfModel(t *testing.T) {
	for n := 1; n <= 4; n++ {
		eachList(n, n, func(a []int) bool {
			eachList(n, n, func(b []int) bool {
				var want []int
				for _, v := range a {
					want = append(want, slices.Index(b, v))
				}
				p, ok := impl.PermutationOfModel(a, b)
				checkList(t, "PermutationOfModel", p, ok, want, true)
				g, _ := impl.GraphOfPermutation(p)
				if slices.IsSorted(a) && !impl.IsPermutationModel(g, a, b) {
					t.Errorf("%v and %v are no model of the graph of %v", a, b, p)
				}
				return true
			})
			return true
		})
	}
	p, ok := impl.PermutationOfModel([]int{6, 5, 4, 3, 2, 1, 0}, []int{0, 2, 4, 6, 1, 3, 5})
	checkList(t, "PermutationOfModel", p, ok, []int{3, 6, 2, 5, 1, 4, 0}, true)
}

func TestPermutationOfOneNumber(t *testing.T) {
	g, ok := impl.GraphOfPermutation([]int{0})
	checkGraph(t, "GraphOfPermutation", g, ok, graphFrom(t, "1:"), true)
	a, b, ok := impl.PermutationModelOf(graphFrom(t, "1:"))
	checkList(t, "PermutationModelOf", a, ok, []int{0}, true)
	checkList(t, "PermutationModelOf", b, ok, []int{0}, true)
	p, ok := impl.PermutationOfModel([]int{0}, []int{0})
	checkList(t, "PermutationOfModel", p, ok, []int{0}, true)
	if !slices.Equal(impl.LongestDecreasing(p), p) || !slices.Equal(impl.LongestIncreasing(p), p) || !impl.IsPermutation(p) || !impl.IsPermutationModel(g, p, p) {
		t.Error("a permutation of one number is refused")
	}
}

func TestPermutationFunctionsRefuseInvalidArguments(t *testing.T) {
	for _, p := range noPermutations() {
		g, ok := impl.GraphOfPermutation(p)
		checkNoGraph(t, "GraphOfPermutation", g, ok)
		if impl.IsPermutation(p) || len(impl.LongestDecreasing(p)) != 0 || len(impl.LongestIncreasing(p)) != 0 {
			t.Errorf("%v is accepted", p)
		}
		for _, order := range [][]int{p, {0}, {0, 1}, {1, 0}, {0, 1, 2}, {2, 0, 1}} {
			q, ok := impl.PermutationOfModel(p, order)
			checkNoList(t, "PermutationOfModel", q, ok)
			q, ok = impl.PermutationOfModel(order, p)
			checkNoList(t, "PermutationOfModel", q, ok)
			g := impl.Graph{Size: len(order), Rows: make([]int, len(order))}
			if impl.IsPermutationModel(g, p, order) || impl.IsPermutationModel(g, order, p) {
				t.Errorf("IsPermutationModel accepts %v and %v", p, order)
			}
		}
	}
	for n := 1; n <= 6; n++ {
		short, long := members(1<<n-1), members(1<<(n+1)-1)
		q, ok := impl.PermutationOfModel(short, long)
		checkNoList(t, "PermutationOfModel", q, ok)
		q, ok = impl.PermutationOfModel(long, short)
		checkNoList(t, "PermutationOfModel", q, ok)
		for _, g := range []impl.Graph{named(t, "empty", n), named(t, "empty", n+1)} {
			if impl.IsPermutationModel(g, short, long) || impl.IsPermutationModel(g, long, short) || impl.IsPermutationModel(g, short, short) == (g.Size > n) {
				t.Errorf("IsPermutationModel of %d vertices does not compare lengths", g.Size)
			}
		}
	}
	for _, g := range invalidGraphs() {
		a, b, ok := impl.PermutationModelOf(g)
		checkNoList(t, "PermutationModelOf", a, ok)
		checkNoList(t, "PermutationModelOf", b, ok)
		for n := range 9 {
			order := members(1<<n - 1)
			if impl.IsPermutationModel(g, order, order) || impl.IsPermutationGraph(g) {
				t.Errorf("%v is accepted", g)
			}
		}
	}
}

func TestPermutationFunctionsLeaveArgumentsAlone(t *testing.T) {
	for _, plain := range append(noPermutations(), []int{2, 0, 3, 1}, []int{3, 2, 1, 0}) {
		p, checkP := guarded(plain)
		q, checkQ := guarded([]int{1, 3, 0, 2})
		g, checkRows := guardedGraph(graphOf(4, 0b101101))
		impl.IsPermutation(p)
		impl.IsPermutationModel(g, p, q)
		impl.IsPermutationGraph(g)
		made, _ := impl.GraphOfPermutation(p)
		a, b, _ := impl.PermutationModelOf(g)
		r, _ := impl.PermutationOfModel(p, q)
		checkApart(t, "results", p, q, r, g.Rows, made.Rows, a, b, impl.LongestDecreasing(p), impl.LongestIncreasing(p))
		checkP(t, "a function of chapter 14")
		checkQ(t, "a function of chapter 14")
		checkRows(t, "a function of chapter 14")
	}
}

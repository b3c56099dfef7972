package tests

import (
	"math"
	"slices"
	"testing"

	"loop.example/g02081/impl"
)

// graphOf builds a graph without the program's functions: bit i stands for the i-th pair of vertices in lexicographic order.
func graphOf(n, bits int) impl.Graph {
	g := impl.Graph{Size: n, Rows: make([]int, n)}
	for v := range n {
		for w := v + 1; w < n; w++ {
			if bits&1 == 1 {
				g.Rows[v] |= 1 << w
				g.Rows[w] |= 1 << v
			}
			bits >>= 1
		}
	}
	return g
}

func eachGraphOf(n int, visit func(impl.Graph)) {
	for bits := range 1 << (n * (n - 1) / 2) {
		visit(graphOf(n, bits))
	}
}

// eachGraph visits all graphs of at most 5 vertices, and of 6 and 7 vertices the simplest ones and a fixed choice of others.
func eachGraph(visit func(impl.Graph)) {
	for n := 1; n <= 5; n++ {
		eachGraphOf(n, visit)
	}
	for n := 6; n <= 7; n++ {
		eachLargeGraph(n, visit)
	}
}

func eachLargeGraph(n int, visit func(impl.Graph)) {
	pairs := n * (n - 1) / 2
	visit(graphOf(n, 0))
	visit(graphOf(n, 1<<pairs-1))
	for i := range pairs {
		visit(graphOf(n, 1<<i))
		visit(graphOf(n, 1<<pairs-1-1<<i))
	}
	state := uint32(n)
	next := func() int {
		state = state*1664525 + 1013904223
		return int(state >> 8)
	}
	for range 60 {
		a, b := next(), next()
		visit(graphOf(n, a&(1<<pairs-1)))
		visit(graphOf(n, a&b&(1<<pairs-1)))
		visit(graphOf(n, (a|b)&(1<<pairs-1)))
	}
}

// invalidGraphs breaks each rule of IsGraph by itself.
func invalidGraphs() []impl.Graph {
	return []impl.Graph{
		{},
		{Size: 0, Rows: []int{0}},
		{Size: -1},
		{Size: -1, Rows: []int{0}},
		{Size: 1},
		{Size: 1, Rows: []int{0, 0}},
		{Size: 3, Rows: []int{2, 1}},
		{Size: 2, Rows: []int{2, 1, 0}},
		{Size: 8, Rows: make([]int, 8)},
		{Size: 7, Rows: make([]int, 8)},
		{Size: 8, Rows: make([]int, 7)},
		{Size: math.MaxInt, Rows: []int{0}},
		{Size: math.MinInt, Rows: []int{0}},
		{Size: 1, Rows: []int{1}},
		{Size: 2, Rows: []int{3, 1}},
		{Size: 2, Rows: []int{2, 0}},
		{Size: 2, Rows: []int{0, 1}},
		{Size: 3, Rows: []int{6, 1, 0}},
		{Size: 2, Rows: []int{4, 0}},
		{Size: 2, Rows: []int{6, 1}},
		{Size: 1, Rows: []int{2}},
		{Size: 1, Rows: []int{-1}},
		{Size: 2, Rows: []int{-2, 1}},
		{Size: 1, Rows: []int{math.MinInt}},
		{Size: 1, Rows: []int{math.MaxInt - 1}},
		{Size: 7, Rows: []int{128, 0, 0, 0, 0, 0, 0}},
	}
}

// strangeNumbers are no vertices, sets or sizes of any graph.
func strangeNumbers() []int {
	return []int{-1, -2, -64, 128, 1 << 20, 1 << 40, math.MaxInt, math.MinInt}
}

func graphFrom(t *testing.T, text string) impl.Graph {
	t.Helper()
	g, ok := impl.ParseGraph(text)
	if !ok {
		t.Fatalf("ParseGraph(%q) fails", text)
	}
	return g
}

func named(t *testing.T, name string, n int) impl.Graph {
	t.Helper()
	g, ok := impl.NamedGraph(name, n)
	if !ok {
		t.Fatalf("NamedGraph(%q, %d) fails", name, n)
	}
	return g
}

func joined(g impl.Graph, v, w int) bool {
	return g.Rows[v]>>w&1 == 1
}

// members is how the tests list a set, independently of the program.
func members(set int) []int {
	l := []int{}
	for v := range 63 {
		if set>>v&1 == 1 {
			l = append(l, v)
		}
	}
	return l
}

func setFrom(l []int) int {
	set := 0
	for _, v := range l {
		set |= 1 << v
	}
	return set
}

// eachList visits all lists of different vertices from 0 up to n of one length, in lexicographic order, until visit returns false.
func eachList(n, length int, visit func([]int) bool) {
	var extend func(l []int) bool
	extend = func(l []int) bool {
		if len(l) == length {
			return visit(slices.Clone(l))
		}
		for v := range n {
			if !slices.Contains(l, v) && !extend(append(slices.Clone(l), v)) {
				return false
			}
		}
		return true
	}
	extend(nil)
}

func equalLists(a, b [][]int) bool {
	return slices.EqualFunc(a, b, func(x, y []int) bool { return slices.Equal(x, y) })
}

func shareMemory(a, b []int) bool {
	a, b = a[:cap(a)], b[:cap(b)]
	for i := range a {
		for j := range b {
			if &a[i] == &b[j] {
				return true
			}
		}
	}
	return false
}

// checkApart fails if two of the lists share memory, unused capacity included.
func checkApart(t *testing.T, what string, lists ...[]int) {
	t.Helper()
	for i := range lists {
		for j := range i {
			if shareMemory(lists[i], lists[j]) {
				t.Errorf("%s: lists %d and %d share memory", what, j, i)
			}
		}
	}
}

// guarded returns a copy of a list with unused capacity behind it, and a check that neither has been changed.
func guarded(l []int) ([]int, func(t *testing.T, what string)) {
	whole := append(slices.Clone(l), -77, -78, -79, -80)
	saved := slices.Clone(whole)
	return whole[:len(l)], func(t *testing.T, what string) {
		t.Helper()
		if !slices.Equal(whole, saved) {
			t.Errorf("%s changes its argument from %v to %v", what, saved, whole)
		}
	}
}

func guardedGraph(g impl.Graph) (impl.Graph, func(t *testing.T, what string)) {
	rows, check := guarded(g.Rows)
	return impl.Graph{Size: g.Size, Rows: rows}, check
}

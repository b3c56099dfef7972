package tests

import (
	"testing"

	"loop.example/g02081/impl"
)

// hasAll reports whether all neighbors of a and a itself, in a set, are neighbors of b or b itself.
func hasAll(g impl.Graph, set, a, b int) bool {
	for _, v := range members(set) {
		if (v == a || joined(g, a, v)) && !(v == b || joined(g, b, v)) {
			return false
		}
	}
	return true
}

func isSimpleIn(g impl.Graph, v, set int) bool {
	for _, a := range members(set) {
		for _, b := range members(set) {
			near := (a == v || joined(g, v, a)) && (b == v || joined(g, v, b))
			if near && !hasAll(g, set, a, b) && !hasAll(g, set, b, a) {
				return false
			}
		}
	}
	return set>>v&1 == 1
}

func simpleOrderIn(g impl.Graph) ([]int, bool) {
	left, order := 1<<g.Size-1, []int{}
	for v := 0; v < g.Size; v++ {
		if isSimpleIn(g, v, left) {
			order = append(order, v)
			left &^= 1 << v
			v = -1
		}
	}
	if left != 0 {
		return nil, false
	}
	return order, true
}

func isSunIn(g impl.Graph, l []int) bool {
	return len(l) == 6 && haveJust(g, l, [][2]int{{0, 1}, {0, 2}, {1, 2}, {0, 3}, {1, 3}, {1, 4}, {2, 4}, {2, 5}, {0, 5}}...)
}

// hasSun looks for a triangle and, for each of its edges, a vertex with just these two as neighbors among the six.
func hasSun(g impl.Graph) bool {
	for set := range 1 << g.Size {
		if len(members(set)) != 6 || edgesWithin(g, set) != 9 {
			continue
		}
		middle := 0
		for _, v := range members(set) {
			if len(members(g.Rows[v]&set)) == 4 {
				middle |= 1 << v
			}
		}
		sun := len(members(middle)) == 3 && isCliqueIn(g, middle)
		for _, v := range members(set &^ middle) {
			sun = sun && g.Rows[v]&set&^middle == 0 && len(members(g.Rows[v]&middle)) == 2
		}
		if sun {
			return true
		}
	}
	return false
}

// sunAt has a sun whose vertices stand in a list, and some pairs of vertices turned into edges, or from edges into none.
func sunAt(n int, l []int, turned ...[2]int) impl.Graph {
	g := impl.Graph{Size: n, Rows: make([]int, n)}
	pairs := [][2]int{{l[0], l[1]}, {l[0], l[2]}, {l[1], l[2]}, {l[3], l[0]}, {l[3], l[1]}, {l[4], l[1]}, {l[4], l[2]}, {l[5], l[2]}, {l[5], l[0]}}
	for _, pair := range append(pairs, turned...) {
		g.Rows[pair[0]] ^= 1 << pair[1]
		g.Rows[pair[1]] ^= 1 << pair[0]
	}
	return g
}

// suns are graphs with suns, or with something near to one.
func suns() []impl.Graph {
	order := []int{0, 1, 2, 3, 4, 5}
	graphs := []impl.Graph{
		sunAt(6, order), sunAt(6, []int{3, 4, 5, 0, 1, 2}), sunAt(6, []int{5, 0, 3, 4, 2, 1}), sunAt(6, []int{1, 4, 2, 5, 0, 3}), sunAt(7, []int{6, 0, 3, 5, 1, 4}), sunAt(7, []int{1, 2, 3, 4, 5, 6}),
		sunAt(7, order, [2]int{6, 0}, [2]int{6, 3}), sunAt(7, order, [2]int{6, 0}, [2]int{6, 1}), sunAt(7, order, [2]int{6, 0}, [2]int{6, 1}, [2]int{6, 2}),
		sunAt(7, []int{6, 5, 4, 0, 1, 2}, [2]int{3, 6}, [2]int{3, 5}, [2]int{3, 0}), sunAt(7, []int{2, 4, 6, 1, 3, 5}, [2]int{0, 1}, [2]int{0, 3}, [2]int{0, 5}),
	}
	for _, turned := range [][2]int{{0, 1}, {3, 0}, {3, 2}, {3, 4}, {5, 1}} {
		graphs = append(graphs, sunAt(6, order, turned))
	}
	return graphs
}

func checkNoStrong(t *testing.T, g impl.Graph) {
	t.Helper()
	order, ok := impl.SimpleOrder(g)
	checkNoList(t, "SimpleOrder", order, ok)
	if impl.IsStronglyChordal(g) {
		t.Errorf("IsStronglyChordal(%v) is true", g)
	}
}

func TestIsSimple(t *testing.T) {
	check := func(g impl.Graph) {
		eachSet(g, func(set int) {
			for v := range g.Size {
				if want := isSimpleIn(g, v, set); impl.IsSimple(g, v, set) != want {
					t.Errorf("IsSimple(%v, %d, %d) is %t", g, v, set, !want)
				}
			}
		})
	}
	eachPartGraph(check)
	for _, g := range suns() {
		check(g)
	}
}

func TestSimpleOrder(t *testing.T) {
	check := func(g impl.Graph) {
		want, wantOk := simpleOrderIn(g)
		order, ok := impl.SimpleOrder(g)
		checkList(t, "SimpleOrder of "+formatted(g), order, ok, want, wantOk)
		if ok && !impl.IsElimination(g, order) {
			t.Errorf("SimpleOrder(%v) = %v is no order of elimination", g, order)
		}
	}
	eachGraph(check)
	for _, g := range suns() {
		check(g)
	}
	for text, want := range map[string][]int{"7: 01 12 23 34 45 56": {0, 1, 2, 3, 4, 5, 6}, "5: 01 02 03 04": {1, 2, 3, 0, 4}, "6: 03 13 23 34 35 45": {0, 1, 2, 3, 4, 5}, "6: 01 02 03 04 05 12 23 34": {1, 2, 3, 4, 0, 5}} {
		order, ok := impl.SimpleOrder(graphFrom(t, text))
		checkList(t, "SimpleOrder of "+text, order, ok, want, true)
	}
}

func TestStronglyChordalGraphsHaveNeitherHoleNorSun(t *testing.T) {
	strong, withSun := make([]int, 8), 0
	check := func(g impl.Graph) {
		want := !hasHole(g) && !hasSun(g)
		if impl.IsStronglyChordal(g) != want {
			t.Errorf("IsStronglyChordal(%v) is %t", g, !want)
		}
		if want {
			strong[g.Size]++
		} else if !hasHole(g) {
			withSun++
		}
	}
	eachGraph(check)
	if strong[1] != 1 || strong[2] != 2 || strong[3] != 8 || strong[4] != 61 || strong[5] != 822 {
		t.Errorf("numbers of strongly chordal graphs: %v", strong)
	}
	for bits := 0; bits < 1<<15; bits += 7 {
		check(graphOf(6, bits))
	}
	for _, g := range suns() {
		check(g)
	}
	if withSun == 0 {
		t.Error("there is no chordal graph with a sun")
	}
}

func TestSuns(t *testing.T) {
	for _, g := range suns() {
		eachList(g.Size, 6, func(l []int) bool {
			if want := isSunIn(g, l); impl.IsSun(g, l) != want {
				t.Errorf("IsSun(%v, %v) is %t", g, l, !want)
			}
			return true
		})
	}
	check := func(g impl.Graph) {
		want, wantOk := firstList(g, 6, isSunIn)
		l, ok := impl.FindSun(g)
		checkList(t, "FindSun of "+formatted(g), l, ok, want, wantOk)
		if wantOk != hasSun(g) || ok != impl.IsSun(g, l) {
			t.Errorf("%v has the sun %v", g, l)
		}
	}
	for _, g := range suns() {
		check(g)
	}
	eachPartGraph(check)
}

func TestIsSunRefusesOtherLists(t *testing.T) {
	g := graphFrom(t, "7: 01 02 03 05 12 13 14 24 25")
	if !impl.IsSun(g, []int{0, 1, 2, 3, 4, 5}) || !impl.IsSun(g, []int{2, 0, 1, 5, 3, 4}) {
		t.Error("IsSun refuses a sun")
	}
	for _, l := range [][]int{nil, {0}, {0, 1, 2}, {0, 1, 2, 3, 4}, {0, 1, 2, 3, 4, 5, 6}, {0, 1, 2, 3, 4, 6}, {0, 1, 2, 3, 4, 7}, {0, 1, 2, 3, 4, 4}, {3, 4, 5, 0, 1, 2}, {0, 2, 1, 3, 4, 5}, make([]int, 6)} {
		if impl.IsSun(g, l) {
			t.Errorf("IsSun accepts %v", l)
		}
	}
	for _, v := range strangeNumbers() {
		if impl.IsSun(g, []int{0, 1, 2, 3, 4, v}) || impl.IsSun(g, []int{v, 1, 2, 3, 4, 5}) {
			t.Errorf("IsSun accepts %d", v)
		}
	}
}

func TestStrongObstacle(t *testing.T) {
	check := func(g impl.Graph) {
		var want []int
		ok := false
		for n := 4; n <= g.Size && !ok; n++ {
			want, ok = firstList(g, n, isHoleIn)
		}
		if !ok {
			want, ok = firstList(g, 6, isSunIn)
		}
		got, gotOk := impl.StrongObstacle(g)
		checkList(t, "StrongObstacle of "+formatted(g), got, gotOk, want, ok)
		if gotOk == impl.IsStronglyChordal(g) {
			t.Errorf("%v has the obstacle %v", g, got)
		}
	}
	eachPartGraph(check)
	for _, g := range suns() {
		check(g)
	}
}

func TestTriangleIsStronglyChordal(t *testing.T) {
	g := graphFrom(t, "3: 01 02 12")
	order, ok := impl.SimpleOrder(g)
	checkList(t, "SimpleOrder", order, ok, []int{0, 1, 2}, true)
	for v := range 3 {
		if !impl.IsSimple(g, v, 7) || !impl.IsSimple(g, v, 1<<v) || impl.IsSimple(g, v, 7&^(1<<v)) {
			t.Errorf("IsSimple does not tell the vertex %d of a triangle", v)
		}
	}
	if !impl.IsStronglyChordal(g) || impl.IsSun(g, []int{0, 1, 2}) {
		t.Error("a triangle is a sun or not strongly chordal")
	}
	l, ok := impl.FindSun(g)
	checkNoList(t, "FindSun", l, ok)
	l, ok = impl.StrongObstacle(g)
	checkNoList(t, "StrongObstacle", l, ok)
}

func TestStrongFunctionsRefuseInvalidArguments(t *testing.T) {
	g := graphFrom(t, "2: 01")
	for _, n := range append(strangeNumbers(), 4, 7, 64) {
		if impl.IsSimple(g, 0, n) || impl.IsSimple(g, n, 3) || impl.IsSimple(g, n, n) {
			t.Errorf("IsSimple accepts %d", n)
		}
	}
	if impl.IsSimple(g, 0, 0) || impl.IsSimple(g, 2, 3) || impl.IsSimple(g, 0, 2) {
		t.Error("IsSimple accepts a vertex outside the set")
	}
	for _, g := range invalidGraphs() {
		checkNoStrong(t, g)
		l, ok := impl.FindSun(g)
		checkNoList(t, "FindSun", l, ok)
		l, ok = impl.StrongObstacle(g)
		checkNoList(t, "StrongObstacle", l, ok)
		for set := range 9 {
			if impl.IsSimple(g, 0, set) || impl.IsSimple(g, 1, set) || impl.IsSun(g, []int{0, 1, 2, 3, 4, 5}) {
				t.Errorf("%v is accepted with the set %d", g, set)
			}
		}
	}
}

func TestStrongFunctionsLeaveArgumentsAlone(t *testing.T) {
	for _, plain := range append(invalidGraphs(), graphFrom(t, "6: 01 02 03 05 12 13 14 24 25"), graphOf(5, 3), graphOf(7, 12345)) {
		g, checkRows := guardedGraph(plain)
		l, checkNumbers := guarded([]int{0, 1, 2, 3, 4, 5})
		impl.IsSimple(g, 0, 1)
		impl.IsStronglyChordal(g)
		impl.IsSun(g, l)
		order, _ := impl.SimpleOrder(g)
		sun, _ := impl.FindSun(g)
		obstacle, _ := impl.StrongObstacle(g)
		checkApart(t, "results", g.Rows, l, order, sun, obstacle)
		checkRows(t, "a function of chapter 22")
		checkNumbers(t, "a function of chapter 22")
	}
}

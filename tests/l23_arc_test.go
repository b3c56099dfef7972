package tests

import (
	"math"
	"slices"
	"strconv"
	"testing"

	"loop.example/g02081/impl"
)

// arcsFrom takes the first point and the length of each arc in turn.
func arcsFrom(circle int, numbers ...int) impl.Arcs {
	a := impl.Arcs{Circle: circle}
	for i := 0; i < len(numbers); i += 2 {
		a.From = append(a.From, numbers[i])
		a.Length = append(a.Length, numbers[i+1])
	}
	return a
}

// eachArcs visits all of up to 2 arcs on the smallest circles, and a fixed choice of others.
func eachArcs(visit func(impl.Arcs)) {
	for circle := 3; circle <= 5; circle++ {
		var arcs [][2]int
		for from := range circle {
			for length := 1; length < circle; length++ {
				arcs = append(arcs, [2]int{from, length})
			}
		}
		for _, x := range arcs {
			visit(arcsFrom(circle, x[0], x[1]))
			for _, y := range arcs {
				visit(arcsFrom(circle, x[0], x[1], y[0], y[1]))
			}
		}
	}
	state := uint32(23)
	next := func(n int) int {
		state = state*1664525 + 1013904223
		return int(state>>8) % n
	}
	for i := range 600 {
		circle := 3 + next(28)
		var numbers []int
		for range 1 + i%7 {
			numbers = append(numbers, next(circle), 1+next(1+(circle-2)/(1+i%5)))
		}
		visit(arcsFrom(circle, numbers...))
	}
}

// onArc counts on from the first point, and begins again at 0 after the last point of the circle.
func onArc(a impl.Arcs, i, x int) bool {
	point := a.From[i]
	for range a.Length[i] {
		if point == x {
			return true
		}
		if point++; point == a.Circle {
			point = 0
		}
	}
	return false
}

func arcsAtIn(a impl.Arcs, x int) int {
	set := 0
	for i := range a.From {
		if onArc(a, i, x) {
			set |= 1 << i
		}
	}
	return set
}

func graphOfArcsIn(a impl.Arcs) impl.Graph {
	g := impl.Graph{Size: len(a.From), Rows: make([]int, len(a.From))}
	for x := range a.Circle {
		set := arcsAtIn(a, x)
		for _, i := range members(set) {
			g.Rows[i] |= set &^ (1 << i)
		}
	}
	return g
}

// cutIn finds the ends of each interval by going around once from the cut.
func cutIn(a impl.Arcs, x int) impl.Intervals {
	m := impl.Intervals{Left: slices.Repeat([]int{-1}, len(a.From)), Right: make([]int, len(a.From))}
	for distance := range a.Circle {
		for i := range a.From {
			if !onArc(a, i, (x+distance)%a.Circle) {
				continue
			}
			if m.Left[i] < 0 {
				m.Left[i] = distance
			}
			m.Right[i] = distance
		}
	}
	return m
}

// invalidArcs breaks each rule of IsArcs by itself.
func invalidArcs() []impl.Arcs {
	arcs := []impl.Arcs{
		{}, {Circle: 3}, {Circle: 3, From: []int{0}}, {Circle: 3, Length: []int{1}}, {Circle: 3, From: []int{0, 1}, Length: []int{1}}, {Circle: 3, From: []int{0}, Length: []int{1, 1}},
		{Circle: 9, From: make([]int, 8), Length: []int{1, 1, 1, 1, 1, 1, 1, 1}}, {Circle: 9, From: make([]int, 7), Length: []int{1, 1, 1, 1, 1, 1, 1, 1}}, {Circle: 9, From: make([]int, 8), Length: []int{1, 1, 1, 1, 1, 1, 1}},
		arcsFrom(2, 0, 1), arcsFrom(1, 0, 1), arcsFrom(0, 0, 1), arcsFrom(-3, 0, 1), arcsFrom(31, 0, 1), arcsFrom(math.MaxInt, 0, 1), arcsFrom(math.MinInt, 0, 1),
		arcsFrom(5, 5, 1), arcsFrom(5, -1, 1), arcsFrom(5, 0, 0), arcsFrom(5, 0, -1), arcsFrom(5, 0, 5), arcsFrom(5, 0, 6), arcsFrom(30, 0, 30), arcsFrom(5, 0, 1, 5, 1), arcsFrom(5, 0, 1, 0, 5),
	}
	for _, n := range strangeNumbers() {
		arcs = append(arcs, arcsFrom(5, n, 1), arcsFrom(5, 1, n), arcsFrom(5, n, n), arcsFrom(n, 0, 1))
	}
	return arcs
}

func TestArcsAndTheirGraphs(t *testing.T) {
	eachArcs(func(a impl.Arcs) {
		g, ok := impl.GraphOfArcs(a)
		checkGraph(t, "GraphOfArcs", g, ok, graphOfArcsIn(a), true)
		if !impl.IsArcs(a) {
			t.Errorf("IsArcs(%v) is false", a)
		}
		text := strconv.Itoa(a.Circle) + ":"
		for i := range a.From {
			text += " " + strconv.Itoa(a.From[i]) + "+" + strconv.Itoa(a.Length[i])
		}
		if got := impl.FormatArcs(a); got != text {
			t.Errorf("FormatArcs(%v) = %q, want %q", a, got, text)
		}
	})
	g, ok := impl.GraphOfArcs(arcsFrom(30, 29, 29, 28, 1, 0, 3, 2, 26, 27, 1, 27, 3, 5, 1))
	checkGraph(t, "GraphOfArcs", g, ok, graphFrom(t, "7: 02 03 04 05 06 15 23 34 35 36 45"), true)
}

func TestPointsOnArcs(t *testing.T) {
	eachArcs(func(a impl.Arcs) {
		free := -1
		for x := a.Circle - 1; x >= 0; x-- {
			want := arcsAtIn(a, x)
			if got := impl.ArcsAt(a, x); got != want {
				t.Errorf("ArcsAt(%v, %d) = %d, want %d", a, x, got, want)
			}
			if want == 0 {
				free = x
			}
			m, ok := impl.CutArcs(a, x)
			if want != 0 {
				checkNoModel(t, "CutArcs", m, ok)
			} else {
				checkModel(t, "CutArcs", m, ok, cutIn(a, x), true)
			}
		}
		if x, ok := impl.FreePoint(a); ok != (free >= 0) || x != max(free, 0) {
			t.Errorf("FreePoint(%v) = %d, %t, want %d", a, x, ok, free)
		}
		for _, x := range append(strangeNumbers(), a.Circle, a.Circle+1, -a.Circle) {
			m, ok := impl.CutArcs(a, x)
			checkNoModel(t, "CutArcs", m, ok)
			if impl.ArcsAt(a, x) != 0 && (x < 0 || x >= a.Circle) {
				t.Errorf("ArcsAt(%v, %d) = %d", a, x, impl.ArcsAt(a, x))
			}
		}
	})
}

func TestCoversCircle(t *testing.T) {
	covering := 0
	eachArcs(func(a impl.Arcs) {
		n := len(a.From)
		for set := -2; set < 2<<n; set++ {
			want := set >= 0 && set < 1<<n
			for x := 0; want && x < a.Circle; x++ {
				want = arcsAtIn(a, x)&set != 0
			}
			if impl.CoversCircle(a, set) != want {
				t.Errorf("CoversCircle(%v, %d) is %t", a, set, !want)
			}
			if want {
				covering++
			}
		}
		for _, set := range strangeNumbers() {
			if impl.CoversCircle(a, set) {
				t.Errorf("CoversCircle(%v, %d) is true", a, set)
			}
		}
	})
	if covering == 0 {
		t.Error("no arcs cover their circle")
	}
}

func TestArcsWithAFreePointHaveAModelByIntervals(t *testing.T) {
	cuts, others := 0, 0
	eachArcs(func(a impl.Arcs) {
		g, _ := impl.GraphOfArcs(a)
		x, ok := impl.FreePoint(a)
		if !ok {
			if !impl.IsInterval(g) {
				others++
			}
			return
		}
		cuts++
		m, ok := impl.CutArcs(a, x)
		if !ok || !impl.IsModelOf(g, m) || !sameGraph(graphOfModel(m), g) {
			t.Errorf("CutArcs(%v, %d) = %v, %t", a, x, m, ok)
		}
		if hasHole(g) || tripleIn(g) != nil || !impl.IsInterval(g) {
			t.Errorf("%v of the arcs %v has no model by intervals", g, a)
		}
	})
	if cuts == 0 || others == 0 {
		t.Errorf("%d circles are cut, %d others have graphs without models", cuts, others)
	}
}

func TestArcOfOnePoint(t *testing.T) {
	for circle := 3; circle <= 30; circle++ {
		last := circle - 1
		a := arcsFrom(circle, last, 1)
		if !impl.IsArcs(a) || impl.ArcsAt(a, last) != 1 || impl.ArcsAt(a, 0) != 0 || impl.ArcsAt(a, last-1) != 0 || impl.CoversCircle(a, 1) {
			t.Errorf("the arc of one point %v has other points", a)
		}
		if x, ok := impl.FreePoint(a); x != 0 || !ok {
			t.Errorf("FreePoint(%v) = %d, %t", a, x, ok)
		}
		m, ok := impl.CutArcs(a, 0)
		checkModel(t, "CutArcs", m, ok, modelFrom(last, last), true)
		m, ok = impl.CutArcs(a, last-1)
		checkModel(t, "CutArcs", m, ok, modelFrom(1, 1), true)
		g, ok := impl.GraphOfArcs(a)
		checkGraph(t, "GraphOfArcs", g, ok, graphFrom(t, "1:"), true)
		g, ok = impl.GraphOfArcs(arcsFrom(circle, last, 1, 0, last, last, 1, last, 2))
		checkGraph(t, "GraphOfArcs", g, ok, graphFrom(t, "4: 02 03 13 23"), true)
		if !impl.CoversCircle(arcsFrom(circle, last, 1, 0, last), 3) || impl.CoversCircle(arcsFrom(circle, last, 1, 0, last), 2) {
			t.Error("CoversCircle does not tell a lacking point")
		}
	}
}

func TestArcFunctionsRefuseInvalidArguments(t *testing.T) {
	for _, a := range invalidArcs() {
		g, ok := impl.GraphOfArcs(a)
		checkNoGraph(t, "GraphOfArcs", g, ok)
		if impl.IsArcs(a) || impl.FormatArcs(a) != "" {
			t.Errorf("IsArcs(%v) is true, FormatArcs = %q", a, impl.FormatArcs(a))
		}
		if x, ok := impl.FreePoint(a); x != 0 || ok {
			t.Errorf("FreePoint(%v) = %d, %t", a, x, ok)
		}
		for x := -1; x < 4; x++ {
			m, ok := impl.CutArcs(a, x)
			checkNoModel(t, "CutArcs", m, ok)
			if impl.ArcsAt(a, x) != 0 || impl.CoversCircle(a, x) {
				t.Errorf("%v is accepted with %d", a, x)
			}
		}
	}
}

func TestArcFunctionsLeaveArgumentsAlone(t *testing.T) {
	for _, plain := range append(invalidArcs(), arcsFrom(6, 0, 3, 2, 3, 4, 3), arcsFrom(8, 6, 4, 1, 3), arcsFrom(3, 0, 1)) {
		from, checkFrom := guarded(plain.From)
		length, checkLength := guarded(plain.Length)
		a := impl.Arcs{Circle: plain.Circle, From: from, Length: length}
		impl.IsArcs(a)
		impl.ArcsAt(a, 0)
		x, _ := impl.FreePoint(a)
		impl.CoversCircle(a, 1)
		impl.FormatArcs(a)
		g, _ := impl.GraphOfArcs(a)
		m, _ := impl.CutArcs(a, x)
		checkApart(t, "results", from, length, g.Rows, m.Left, m.Right)
		checkFrom(t, "a function of chapter 23")
		checkLength(t, "a function of chapter 23")
	}
}

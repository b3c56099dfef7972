package tests

import (
	"math"
	"slices"
	"strings"
	"testing"

	"loop.example/g02081/impl"
)

// modelIn makes the model of a class without the program's functions.
func modelIn(g impl.Graph, name string) (numbers, others []int, ok bool) {
	switch name {
	case "chordal":
		numbers, ok = eliminated(g)
	case "interval":
		if ok = isMemberIn(g, name); ok {
			m := modelOfSets(cliqueOrdersIn(g)[0], g.Size)
			numbers, others = m.Left, m.Right
		}
	case "proper":
		if ok = isMemberIn(g, name); ok {
			numbers, _ = umbrellaIn(g)
		}
	case "cograph":
		numbers, ok = twinOrdered(g)
	case "split":
		splits := splitsIn(g)
		if ok = len(splits) > 0; ok {
			numbers = splits[:1]
		}
	case "threshold":
		order, joins, found := thresholdIn(g)
		if ok = found; ok {
			weights, limit := weightsIn(order, joins)
			numbers, others = weights, []int{limit}
		}
	case "bipartite":
		var side int
		side, ok = sidesIn(g)
		numbers = []int{side}
	case "strong":
		numbers, ok = simpleOrderIn(g)
	}
	return numbers, others, ok
}

// isModelIn tells models by the edges of the graph.
func isModelIn(g impl.Graph, name string, numbers, others []int) bool {
	isOrder := len(numbers) == g.Size && areDifferentIn(g, numbers)
	isSet := len(numbers) == 1 && numbers[0] >= 0 && numbers[0] < 1<<g.Size
	switch name {
	case "interval":
		m := impl.Intervals{Left: numbers, Right: others}
		return len(numbers) == len(others) && len(numbers) == g.Size && areEnds(m) && sameGraph(graphOfModel(m), g)
	case "threshold":
		return len(others) == 1 && len(numbers) == g.Size && areWeightsIn(g, numbers, others[0])
	}
	if len(others) != 0 {
		return false
	}
	switch name {
	case "chordal":
		return isOrder && isEliminationIn(g, numbers)
	case "proper":
		return isOrder && isUmbrellaIn(g, numbers)
	case "cograph":
		return isOrder && eachFits(numbers[:g.Size-1], func(i, v int) bool {
			return slices.ContainsFunc(numbers[i+1:], func(w int) bool { return areTwinsWithin(g, setFrom(numbers[i:]), v, w) })
		})
	case "split":
		return isSet && isCliqueIn(g, numbers[0]) && edgesWithin(g, (1<<g.Size-1)&^numbers[0]) == 0
	case "bipartite":
		return isSet && edgesWithin(g, numbers[0]) == 0 && edgesWithin(g, (1<<g.Size-1)&^numbers[0]) == 0
	case "strong":
		return isOrder && eachFits(numbers, func(i, v int) bool { return isSimpleIn(g, v, setFrom(numbers[i:])) })
	}
	return false
}

func eachFits(l []int, fits func(i, v int) bool) bool {
	for i, v := range l {
		if !fits(i, v) {
			return false
		}
	}
	return true
}

func areEnds(m impl.Intervals) bool {
	for i, left := range m.Left {
		if left < 0 || m.Right[i] < left || m.Right[i] > 99 {
			return false
		}
	}
	return true
}

func areWeightsIn(g impl.Graph, w []int, limit int) bool {
	for v := range g.Size {
		for u := range v {
			if joined(g, u, v) != (w[u]+w[v] > limit) {
				return false
			}
		}
	}
	return slices.Min(w) >= 0 && slices.Max(w) <= 1000000 && limit >= 0 && limit <= 1000000
}

func sameClaim(a, b impl.Claim) bool {
	return a.Kind == b.Kind && sameGraph(a.Graph, b.Graph) && a.Class == b.Class && slices.Equal(a.Numbers, b.Numbers) && slices.Equal(a.Others, b.Others) && equalLists(a.Edges, b.Edges)
}

func checkClaim(t *testing.T, what string, c impl.Claim, ok bool, want impl.Claim, wantOk bool) {
	t.Helper()
	if ok != wantOk || !sameClaim(c, want) || !impl.EqualClaims(c, want) {
		t.Errorf("%s = %v, %t, want %v, %t", what, c, ok, want, wantOk)
	}
	if impl.CheckClaim(c) != wantOk {
		t.Errorf("CheckClaim(%v) is %t", c, !wantOk)
	}
	checkApart(t, what, append(c.Edges, c.Graph.Rows, c.Numbers, c.Others)...)
}

func checkNoClaim(t *testing.T, what string, c impl.Claim, ok bool) {
	t.Helper()
	checkClaim(t, what, c, ok, impl.Claim{}, false)
}

func TestClaimWord(t *testing.T) {
	for i, word := range []string{"", "member", "outside", "colors", "covers", "fill", "packing", "", ""} {
		if got := impl.ClaimWord(i); got != word {
			t.Errorf("ClaimWord(%d) = %q", i, got)
		}
	}
	for _, n := range append(strangeNumbers(), 64, 65) {
		if impl.ClaimWord(n) != "" {
			t.Errorf("ClaimWord(%d) = %q", n, impl.ClaimWord(n))
		}
	}
	if impl.ClaimMember != 1 || impl.ClaimOutside != 2 || impl.ClaimColors != 3 || impl.ClaimCovers != 4 || impl.ClaimFill != 5 || impl.ClaimPacking != 6 {
		t.Error("the kinds of claims have other numbers")
	}
}

func TestClaimOfClass(t *testing.T) {
	check := func(g impl.Graph) {
		for _, name := range classNames() {
			c, ok := impl.ClaimOfClass(g, name)
			numbers, others, isMember := modelIn(g, name)
			obstacle, isOutside := impl.ObstacleFor(g, name)
			what := "ClaimOfClass " + name + " of " + formatted(g)
			switch {
			case isMember:
				checkClaim(t, what, c, ok, impl.Claim{Kind: impl.ClaimMember, Graph: g, Class: name, Numbers: numbers, Others: others}, true)
			case isOutside:
				checkClaim(t, what, c, ok, impl.Claim{Kind: impl.ClaimOutside, Graph: g, Class: name, Numbers: obstacle}, true)
			default:
				checkNoClaim(t, what, c, ok)
			}
			// A perfect graph has no model here.
			if ok != (name != "perfect" || !isMemberIn(g, name)) {
				t.Errorf("%s succeeds: %t", what, ok)
			}
			checkApart(t, what, c.Graph.Rows, g.Rows)
		}
	}
	eachGraph(check)
	for _, g := range classGraphs() {
		check(g)
	}
}

func TestClaimOfColors(t *testing.T) {
	kinds := [7]int{}
	check := func(g impl.Graph) {
		clique := bestSet(g, func(set int) bool { return isCliqueIn(g, set) })
		independent := bestSet(g, func(set int) bool { return edgesWithin(g, set) == 0 })
		c, ok := impl.ClaimOfColors(g)
		kinds[c.Kind]++
		coloring, _ := firstColoring(g, fewestColors(g))
		switch cover := impl.CliqueCoverOf(g); {
		case fewestColors(g) == len(members(clique)):
			checkClaim(t, "ClaimOfColors of "+formatted(g), c, ok, impl.Claim{Kind: impl.ClaimColors, Graph: g, Numbers: coloring, Others: []int{clique}}, true)
		case fewestColors(without(g)) == len(members(independent)):
			checkClaim(t, "ClaimOfColors of "+formatted(g), c, ok, impl.Claim{Kind: impl.ClaimCovers, Graph: g, Numbers: cover, Others: []int{independent}}, true)
		default:
			checkNoClaim(t, "ClaimOfColors of "+formatted(g), c, ok)
		}
	}
	eachPartGraph(check)
	eachGraphOf(5, check)
	for _, g := range imperfectGraphs() {
		check(g)
	}
	check(impl.Graph{Size: 6, Rows: rowsFrom("6: 01 12 23 34 40 05")})
	if kinds[0] == 0 || kinds[impl.ClaimColors] == 0 || kinds[impl.ClaimCovers] == 0 {
		t.Errorf("numbers of claims: %v", kinds)
	}
}

func TestClaimOfFillAndOfPacking(t *testing.T) {
	gaps := 0
	check := func(g impl.Graph) {
		c, ok := impl.ClaimOfFill(g)
		checkClaim(t, "ClaimOfFill of "+formatted(g), c, ok, impl.Claim{Kind: impl.ClaimFill, Graph: g, Edges: minimalFillIn(g)}, true)
		set, packing := fewestDominatingIn(g), bestSet(g, func(set int) bool { return isPackedIn(g, set) })
		c, ok = impl.ClaimOfPacking(g)
		if len(members(set)) == len(members(packing)) {
			checkClaim(t, "ClaimOfPacking of "+formatted(g), c, ok, impl.Claim{Kind: impl.ClaimPacking, Graph: g, Numbers: []int{set}, Others: []int{packing}}, true)
			return
		}
		gaps++
		checkNoClaim(t, "ClaimOfPacking of "+formatted(g), c, ok)
	}
	eachGraph(check)
	for _, g := range fillGraphs() {
		check(g)
	}
	if gaps == 0 {
		t.Error("no graph has a gap")
	}
}

// eachModelOf visits lists of numbers, and others, that may be models of a graph: orders and what is nearly one, sets, ends and weights.
func eachModelOf(g impl.Graph, visit func(numbers, others []int)) {
	for _, others := range [][]int{nil, {}, {0}, {3}} {
		for length := max(0, g.Size-1); length <= g.Size; length++ {
			eachList(g.Size, length, func(l []int) bool { visit(l, others); return true })
		}
		for set := -1; set <= 1<<g.Size; set++ {
			visit([]int{set}, others)
		}
		visit(members(1<<g.Size), others)
		visit(make([]int, g.Size), others)
		visit([]int{1, 1}, others)
	}
	if g.Size > 3 {
		return
	}
	eachNumbers(g.Size, -1, 3, func(numbers []int) {
		for limit := -1; limit <= 3; limit++ {
			visit(numbers, []int{limit})
		}
		visit(numbers, []int{1, 1})
		eachNumbers(g.Size, 0, 2, func(others []int) { visit(numbers, others) })
	})
}

func TestIsModelFor(t *testing.T) {
	models := map[string]int{}
	check := func(g impl.Graph) {
		eachModelOf(g, func(numbers, others []int) {
			for _, name := range append(classNames(), "", "planar") {
				want := isModelIn(g, name, numbers, others)
				if impl.IsModelFor(g, name, numbers, others) != want {
					t.Errorf("IsModelFor(%v, %q, %v, %v) is %t", g, name, numbers, others, !want)
				}
				if want {
					models[name]++
				}
			}
		})
	}
	for n := 1; n <= 4; n++ {
		eachGraphOf(n, check)
	}
	for bits := 0; bits < 1<<10; bits += 61 {
		check(graphOf(5, bits))
	}
	for _, name := range classNames() {
		if (models[name] > 0) != (name != "perfect") {
			t.Errorf("%d models for %q", models[name], name)
		}
	}
}

// isTrue tells what a claim says by trial.
func isTrue(c impl.Claim) bool {
	g := c.Graph
	clique := bestSet(g, func(set int) bool { return isCliqueIn(g, set) })
	independent := bestSet(g, func(set int) bool { return edgesWithin(g, set) == 0 })
	packing := bestSet(g, func(set int) bool { return isPackedIn(g, set) })
	switch c.Kind {
	case impl.ClaimMember:
		return isMemberIn(g, c.Class)
	case impl.ClaimOutside:
		return slices.Contains(classNames(), c.Class) && !isMemberIn(g, c.Class)
	case impl.ClaimColors:
		return isColoringIn(g, c.Numbers) && fewestColors(g) == len(members(clique)) && len(slices.Compact(slices.Sorted(slices.Values(c.Numbers)))) == fewestColors(g)
	case impl.ClaimCovers:
		return isCliqueCoverIn(g, c.Numbers) && fewestColors(without(g)) == len(members(independent)) && len(c.Numbers) == fewestColors(without(g))
	case impl.ClaimFill:
		return isMinimalFillIn(g, c.Edges)
	case impl.ClaimPacking:
		return len(members(fewestDominatingIn(g))) == len(members(packing)) && len(members(c.Numbers[0])) == len(members(packing))
	}
	return false
}

func TestWhatTheCheckerAcceptsIsTrue(t *testing.T) {
	accepted := [8]int{}
	check := func(c impl.Claim) {
		if impl.CheckClaim(c) {
			accepted[c.Kind]++
			if !isTrue(c) {
				t.Errorf("CheckClaim accepts %v", c)
			}
		}
	}
	try := func(g impl.Graph) {
		eachModelOf(g, func(numbers, others []int) {
			for kind := 0; kind <= 7; kind++ {
				check(impl.Claim{Kind: kind, Graph: g, Numbers: numbers, Others: others})
				for _, name := range classNames() {
					if kind == impl.ClaimMember || kind == impl.ClaimOutside {
						check(impl.Claim{Kind: kind, Graph: g, Class: name, Numbers: numbers, Others: others})
					}
				}
			}
		})
		missing := missingEdges(g)
		for set := range 1 << len(missing) {
			c := impl.Claim{Kind: impl.ClaimFill, Graph: g}
			for _, i := range members(set) {
				c.Edges = append(c.Edges, missing[i])
			}
			check(c)
		}
		for a := -1; a <= 1<<g.Size; a++ {
			for b := -1; b <= 1<<g.Size; b++ {
				check(impl.Claim{Kind: impl.ClaimPacking, Graph: g, Numbers: []int{a}, Others: []int{b}})
				check(impl.Claim{Kind: impl.ClaimColors, Graph: g, Numbers: members(1<<g.Size - 1), Others: []int{b}})
				check(impl.Claim{Kind: impl.ClaimCovers, Graph: g, Numbers: []int{a, 1<<g.Size - 1 - a}, Others: []int{b}})
				check(impl.Claim{Kind: impl.ClaimCovers, Graph: g, Numbers: []int{1<<g.Size - 1, 0}, Others: []int{b}})
			}
		}
	}
	for n := 1; n <= 3; n++ {
		eachGraphOf(n, try)
	}
	for bits := 0; bits < 1<<6; bits += 5 {
		try(graphOf(4, bits))
	}
	try(graphFrom(t, "5: 01 04 12 23 34"))
	if accepted[0] != 0 || accepted[7] != 0 || slices.Contains(accepted[1:7], 0) {
		t.Errorf("numbers of claims that are accepted: %v", accepted)
	}
}

func TestCheckClaimAcceptsOtherColoringsAndSets(t *testing.T) {
	g := graphFrom(t, "4: 01 12 23")
	for _, c := range []impl.Claim{
		{Kind: impl.ClaimColors, Graph: g, Numbers: []int{6, 3, 6, 3}, Others: []int{12}},
		{Kind: impl.ClaimCovers, Graph: g, Numbers: []int{12, 3}, Others: []int{9}},
		{Kind: impl.ClaimPacking, Graph: g, Numbers: []int{6}, Others: []int{9}},
		{Kind: impl.ClaimFill, Graph: g},
		{Kind: impl.ClaimMember, Graph: g, Class: "proper", Numbers: []int{3, 2, 1, 0}},
		{Kind: impl.ClaimMember, Graph: g, Class: "interval", Numbers: []int{0, 9, 19, 28}, Others: []int{9, 20, 28, 99}},
		{Kind: impl.ClaimMember, Graph: g, Class: "bipartite", Numbers: []int{10}},
		{Kind: impl.ClaimOutside, Graph: g, Class: "cograph", Numbers: []int{3, 2, 1, 0}},
		{Kind: impl.ClaimOutside, Graph: g, Class: "threshold", Numbers: []int{3, 2, 1, 0}},
	} {
		if !impl.CheckClaim(c) {
			t.Errorf("CheckClaim refuses %v", c)
		}
	}
	for _, c := range []impl.Claim{
		{Kind: impl.ClaimColors, Graph: g, Numbers: []int{0, 1, 2, 1}, Others: []int{12}},
		{Kind: impl.ClaimColors, Graph: g, Numbers: []int{0, 1, 0, 7}, Others: []int{12}},
		{Kind: impl.ClaimColors, Graph: g, Numbers: []int{0, 1, 0, 1}, Others: []int{5}},
		{Kind: impl.ClaimColors, Graph: g, Numbers: []int{0, 1, 0, 1}, Others: []int{12, 3}},
		{Kind: impl.ClaimColors, Graph: g, Numbers: []int{0, 1, 0, 1}},
		{Kind: impl.ClaimColors, Graph: g, Numbers: []int{0, 1, 0, 1}, Others: []int{math.MinInt}},
		{Kind: impl.ClaimCovers, Graph: g, Numbers: []int{12, 3}, Others: []int{12}},
		{Kind: impl.ClaimCovers, Graph: g, Numbers: []int{12, 3}, Others: []int{1}},
		{Kind: impl.ClaimCovers, Graph: g, Numbers: []int{12, 3}},
		{Kind: impl.ClaimCovers, Graph: g, Numbers: []int{12, 3}, Others: []int{9, 9}},
		{Kind: impl.ClaimPacking, Graph: g, Numbers: []int{6, 6}, Others: []int{9}},
		{Kind: impl.ClaimPacking, Graph: g, Numbers: []int{6}, Others: []int{9, 9}},
		{Kind: impl.ClaimPacking, Graph: g, Numbers: []int{6}},
		{Kind: impl.ClaimPacking, Graph: g, Others: []int{9}},
		{Kind: impl.ClaimPacking, Graph: g, Numbers: []int{15}, Others: []int{9}},
		{Kind: impl.ClaimPacking, Graph: g, Numbers: []int{6}, Others: []int{1}},
		{Kind: impl.ClaimFill, Graph: g, Edges: [][]int{{0, 2}}},
		{Kind: impl.ClaimFill, Graph: g, Edges: [][]int{nil}},
		{Kind: impl.ClaimMember, Graph: g, Class: "split"},
		{Kind: impl.ClaimMember, Graph: g, Class: "split", Numbers: []int{6, 6}},
		{Kind: impl.ClaimMember, Graph: g, Class: "bipartite"},
		{Kind: impl.ClaimMember, Graph: g, Class: "threshold", Numbers: []int{1, 1, 1, 1}},
		{Kind: impl.ClaimMember, Graph: g, Class: "interval", Numbers: []int{0, 0, 1, 2}},
		{Kind: impl.ClaimMember, Graph: g, Class: "interval", Numbers: []int{0, 0, 1, 2}, Others: []int{0, 1, 2}},
		{Kind: impl.ClaimOutside, Graph: g, Class: "chordal", Numbers: []int{0, 1, 2, 3}},
		{Kind: impl.ClaimOutside, Graph: g, Class: "planar", Numbers: []int{0, 1, 2, 3}},
	} {
		if impl.CheckClaim(c) {
			t.Errorf("CheckClaim accepts %v", c)
		}
	}
}

func TestOrderThatLacksAVertex(t *testing.T) {
	check := func(g impl.Graph) {
		for _, name := range []string{"chordal", "proper", "cograph", "strong"} {
			c, ok := impl.ClaimOfClass(g, name)
			if !ok || c.Kind != impl.ClaimMember {
				continue
			}
			order := c.Numbers
			for i := range order {
				for _, l := range [][]int{slices.Delete(slices.Clone(order), i, i+1), slices.Insert(slices.Clone(order), i, order[i]), slices.Insert(slices.Clone(order), i, g.Size)} {
					if c.Numbers = l; impl.CheckClaim(c) || impl.IsModelFor(g, name, l, nil) {
						t.Errorf("CheckClaim accepts %v", c)
					}
				}
				for _, v := range append(strangeNumbers(), g.Size, 7, 64) {
					c.Numbers = slices.Clone(order)
					if c.Numbers[i] = v; impl.CheckClaim(c) || impl.IsModelFor(g, name, c.Numbers, nil) {
						t.Errorf("CheckClaim accepts %v", c)
					}
				}
			}
			if c.Numbers = nil; impl.CheckClaim(c) {
				t.Errorf("CheckClaim accepts %v", c)
			}
		}
	}
	eachPartGraph(check)
	for _, g := range classGraphs() {
		check(g)
	}
}

func TestFormatClaim(t *testing.T) {
	g := graphFrom(t, "3: 01")
	for _, c := range []struct {
		claim impl.Claim
		want  string
	}{
		{impl.Claim{Kind: 1, Graph: g, Class: "chordal", Numbers: []int{2, -1, math.MaxInt}}, "member 3: 01 of chordal by 2,-1,9223372036854775807 and none"},
		{impl.Claim{Kind: 1, Graph: g, Class: "no class", Others: []int{4, 10}}, "member 3: 01 of no class by none and 4,10"},
		{impl.Claim{Kind: 1, Graph: g, Class: "split", Numbers: []int{0}, Others: []int{0}, Edges: [][]int{{0, 1}}}, "member 3: 01 of split by 0 and 0"},
		{impl.Claim{Kind: 2, Graph: g, Class: "perfect", Numbers: []int{0, 1}, Others: []int{5}}, "outside 3: 01 of perfect by 0,1"},
		{impl.Claim{Kind: 2, Graph: g, Class: "x"}, "outside 3: 01 of x by none"},
		{impl.Claim{Kind: 3, Graph: g, Class: "x", Numbers: []int{0, 1, 0}, Others: []int{3}}, "colors 3: 01 by 0,1,0 and 3"},
		{impl.Claim{Kind: 3, Graph: g}, "colors 3: 01 by none and none"},
		{impl.Claim{Kind: 4, Graph: g, Numbers: []int{3, 4}, Others: []int{5}}, "covers 3: 01 by 3,4 and 5"},
		{impl.Claim{Kind: 4, Graph: g, Others: []int{-5, 6}}, "covers 3: 01 by none and -5,6"},
		{impl.Claim{Kind: 5, Graph: g, Numbers: []int{1}, Others: []int{2}, Edges: [][]int{{0, 2}, {1, 2}}}, "fill 3: 01 by 02,12"},
		{impl.Claim{Kind: 5, Graph: g}, "fill 3: 01 by none"},
		{impl.Claim{Kind: 5, Graph: g, Edges: [][]int{nil}}, "fill 3: 01 by none"},
		{impl.Claim{Kind: 5, Graph: g, Edges: [][]int{{}}}, "fill 3: 01 by none"},
		{impl.Claim{Kind: 5, Graph: g, Edges: [][]int{nil, {}}}, "fill 3: 01 by ,"},
		{impl.Claim{Kind: 5, Graph: g, Edges: [][]int{{1}, nil, {-1, 10, 2}}}, "fill 3: 01 by 1,,-1102"},
		{impl.Claim{Kind: 6, Graph: g, Numbers: []int{5}, Others: []int{5}}, "packing 3: 01 by 5 and 5"},
		{impl.Claim{Kind: 6, Graph: graphFrom(t, "1:"), Numbers: []int{1}}, "packing 1: by 1 and none"},
		{impl.Claim{Kind: 0, Graph: g, Numbers: []int{5}}, ""},
		{impl.Claim{Kind: 7, Graph: g, Numbers: []int{5}}, ""},
		{impl.Claim{Kind: -1, Graph: g}, ""},
		{impl.Claim{Kind: 1, Class: "chordal"}, ""},
	} {
		if got := impl.FormatClaim(c.claim); got != c.want {
			t.Errorf("FormatClaim(%v) = %q, want %q", c.claim, got, c.want)
		}
	}
}

func TestEqualClaims(t *testing.T) {
	same := func() impl.Claim {
		return impl.Claim{Kind: 1, Graph: impl.Graph{Size: 2, Rows: []int{2, 1}}, Class: "chordal", Numbers: []int{0, 1}, Others: []int{2}, Edges: [][]int{{0, 1}, {1, 2}}}
	}
	other := []impl.Claim{same(), same(), same(), same(), same(), same(), same(), same(), same(), same(), same(), same()}
	other[0].Kind = 2
	other[1].Graph.Size = 3
	other[2].Graph.Rows[0] = 0
	other[3].Class = "Chordal"
	other[4].Numbers[1] = 2
	other[5].Numbers = other[5].Numbers[:1]
	other[6].Others = nil
	other[7].Edges[1][1] = 3
	other[8].Edges = other[8].Edges[:1]
	other[9].Edges[0] = []int{0, 1, 1}
	other[10] = impl.Claim{}
	other[11].Others = []int{2, 2}
	for i, c := range other {
		if impl.EqualClaims(same(), c) || impl.EqualClaims(c, same()) || !impl.EqualClaims(c, c) {
			t.Errorf("EqualClaims does not tell claim %d: %v", i, c)
		}
	}
	if !impl.EqualClaims(same(), same()) {
		t.Error("EqualClaims tells equal claims apart")
	}
	empty := impl.Claim{Graph: impl.Graph{Rows: []int{}}, Numbers: []int{}, Others: []int{}, Edges: [][]int{}}
	if !impl.EqualClaims(empty, impl.Claim{}) || !impl.EqualClaims(impl.Claim{Edges: [][]int{nil}}, impl.Claim{Edges: [][]int{{}}}) || impl.EqualClaims(impl.Claim{Edges: [][]int{nil}}, impl.Claim{}) {
		t.Error("EqualClaims does not take empty lists for nil ones, or none for one without vertices")
	}
}

func TestClaimFunctionsRefuseInvalidArguments(t *testing.T) {
	for _, name := range noClassNames() {
		c, ok := impl.ClaimOfClass(named(t, "path", 4), name)
		checkNoClaim(t, "ClaimOfClass", c, ok)
		if impl.IsModelFor(named(t, "path", 4), name, nil, nil) || impl.IsModelFor(named(t, "path", 4), name, []int{0, 1, 2, 3}, nil) {
			t.Errorf("IsModelFor accepts the name %q", name)
		}
	}
	for _, g := range invalidGraphs() {
		for _, name := range append(classNames(), "planar") {
			c, ok := impl.ClaimOfClass(g, name)
			checkNoClaim(t, "ClaimOfClass", c, ok)
			for _, numbers := range [][]int{nil, {0}, {1}, {0, 1}, {0, 1, 2}} {
				for _, others := range [][]int{nil, {0}, {0, 1}, {0, 1, 2}} {
					if impl.IsModelFor(g, name, numbers, others) {
						t.Errorf("IsModelFor(%v, %q, %v, %v) is true", g, name, numbers, others)
					}
					for kind := range 8 {
						if c := (impl.Claim{Kind: kind, Graph: g, Class: name, Numbers: numbers, Others: others}); impl.CheckClaim(c) || impl.FormatClaim(c) != "" {
							t.Errorf("CheckClaim(%v) is %t, FormatClaim = %q", c, impl.CheckClaim(c), impl.FormatClaim(c))
						}
					}
				}
			}
		}
		for _, claimOf := range []func(impl.Graph) (impl.Claim, bool){impl.ClaimOfColors, impl.ClaimOfFill, impl.ClaimOfPacking} {
			c, ok := claimOf(g)
			checkNoClaim(t, "a claim", c, ok)
		}
	}
}

func TestClaimFunctionsLeaveArgumentsAlone(t *testing.T) {
	for _, plain := range append(invalidGraphs(), graphOf(4, 0b101101), graphOf(4, 0), graphOf(4, 0b100101), graphOf(7, 12345)) {
		g, checkRows := guardedGraph(plain)
		numbers, checkNumbers := guarded([]int{3, 1, 2, 0})
		others, checkOthers := guarded([]int{3})
		edge, checkEdge := guarded([]int{0, 2})
		for _, name := range classNames() {
			impl.IsModelFor(g, name, numbers, others)
			impl.IsModelFor(g, name, numbers, nil)
			c, _ := impl.ClaimOfClass(g, name)
			checkApart(t, "results", g.Rows, numbers, others, c.Graph.Rows, c.Numbers, c.Others)
			for kind := range 8 {
				c := impl.Claim{Kind: kind, Graph: g, Class: name, Numbers: numbers, Others: others, Edges: [][]int{edge}}
				impl.CheckClaim(c)
				impl.FormatClaim(c)
				impl.EqualClaims(c, c)
			}
		}
		a, _ := impl.ClaimOfColors(g)
		b, _ := impl.ClaimOfFill(g)
		c, _ := impl.ClaimOfPacking(g)
		checkApart(t, "results", append(b.Edges, g.Rows, a.Graph.Rows, a.Numbers, a.Others, b.Graph.Rows, c.Graph.Rows, c.Numbers, c.Others)...)
		checkRows(t, "a function of chapter 33")
		checkNumbers(t, "a function of chapter 33")
		checkOthers(t, "a function of chapter 33")
		checkEdge(t, "a function of chapter 33")
	}
	long := strings.Repeat("x", 100000)
	if got := impl.FormatClaim(impl.Claim{Kind: 2, Graph: graphFrom(t, "1:"), Class: long}); got != "outside 1: of "+long+" by none" {
		t.Error("FormatClaim changes a long name")
	}
}

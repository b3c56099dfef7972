package tests

import (
	"strconv"
	"strings"
	"testing"

	"loop.example/g02081/impl"
)

// cotreeIn writes the text of a set: its parts, or those of the complement. It is empty if there is a set with just one of each.
func cotreeIn(g impl.Graph, set int) string {
	if l := members(set); len(l) == 1 {
		return strconv.Itoa(l[0])
	}
	sign, parts := "+", partsIn(g, set)
	if len(parts) == 1 {
		sign, parts = "*", partsIn(without(g), set)
	}
	if len(parts) == 1 {
		return ""
	}
	text := "(" + sign
	for _, part := range parts {
		child := cotreeIn(g, part)
		if child == "" {
			return ""
		}
		text += " " + child
	}
	return text + ")"
}

func hasPathOfFour(g impl.Graph) bool {
	_, ok := firstList(g, 4, isPathIn)
	return ok
}

// twinOrdered takes the least vertex with a twin until one is left.
func twinOrdered(g impl.Graph) ([]int, bool) {
	left, order := 1<<g.Size-1, []int{}
	for len(order) < g.Size-1 {
		taken := -1
		for _, v := range members(left) {
			for _, w := range members(left) {
				if v != w && taken < 0 && areTwinsWithin(g, left, v, w) {
					taken = v
				}
			}
		}
		if taken < 0 {
			return nil, false
		}
		order = append(order, taken)
		left &^= 1 << taken
	}
	return append(order, members(left)[0]), true
}

func areTwinsWithin(g impl.Graph, left, v, w int) bool {
	for _, u := range members(left) {
		if u != v && u != w && joined(g, u, v) != joined(g, u, w) {
			return false
		}
	}
	return true
}

func checkNoCograph(t *testing.T, g impl.Graph) {
	t.Helper()
	text, ok := impl.CotreeOf(g)
	if text != "" || ok || impl.IsCograph(g) {
		t.Errorf("CotreeOf(%v) = %q, %t", g, text, ok)
	}
	answers, ok := impl.CographAnswers(g)
	checkNoList(t, "CographAnswers", answers, ok)
	order, ok := impl.TwinOrder(g)
	checkNoList(t, "TwinOrder", order, ok)
}

func TestCographsArePutTogetherFromTheirCotrees(t *testing.T) {
	eachGraph(func(g impl.Graph) {
		want := cotreeIn(g, 1<<g.Size-1)
		if (want == "") != hasPathOfFour(g) {
			t.Errorf("%v has the cotree %q", g, want)
		}
		if want == "" {
			checkNoCograph(t, g)
			return
		}
		text, ok := impl.CotreeOf(g)
		if text != want || !ok || !impl.IsCograph(g) {
			t.Errorf("CotreeOf(%v) = %q, %t, want %q", g, text, ok, want)
		}
		back, ok := impl.GraphOfCotree(text)
		checkGraph(t, "GraphOfCotree of "+text, back, ok, g, true)
	})
}

func TestLongestCotrees(t *testing.T) {
	for _, text := range []string{
		"(* 0 (+ 1 (* 2 (+ 3 (* 4 (+ 5 6))))))",
		"(+ 0 (* 1 (+ 2 (* 3 (+ 4 (* 5 6))))))",
		"(+ (* (+ (* (+ (* 0 1) 2) 3) 4) 5) 6)",
		"(* (+ 0 1) (+ 2 3) (+ (* 4 5) 6))",
		"(+ 0 1 2 3 4 5 6)",
		"(* 0 1 2 3 4 5 6)",
	} {
		g, ok := impl.GraphOfCotree(text)
		if !ok || cotreeIn(g, 127) != text {
			t.Errorf("GraphOfCotree(%q) = %v, %t", text, g, ok)
		}
		checkNoGraphOfCotree(t, text+" ")
		checkNoGraphOfCotree(t, text+")")
		checkNoGraphOfCotree(t, "("+text)
		checkNoGraphOfCotree(t, text[:len(text)-1])
	}
}

func checkNoGraphOfCotree(t *testing.T, text string) {
	t.Helper()
	g, ok := impl.GraphOfCotree(text)
	if ok || !sameGraph(g, impl.Graph{}) {
		t.Errorf("GraphOfCotree(%q) = %v, %t", text, g, ok)
	}
}

// cotreesUpTo4 maps the texts of all cographs of at most 4 vertices to them.
func cotreesUpTo4() map[string]impl.Graph {
	cotrees := map[string]impl.Graph{}
	for n := 1; n <= 4; n++ {
		eachGraphOf(n, func(g impl.Graph) {
			if text := cotreeIn(g, 1<<n-1); text != "" {
				cotrees[text] = g
			}
		})
	}
	return cotrees
}

func TestGraphOfCotreeAcceptsJustCotrees(t *testing.T) {
	cotrees := cotreesUpTo4()
	check := func(text string) {
		want, wantOk := cotrees[text]
		g, ok := impl.GraphOfCotree(text)
		checkGraph(t, "GraphOfCotree of "+strconv.Quote(text), g, ok, want, wantOk)
	}
	signs := []string{"(", ")", "+", "*", " ", "0", "1", "2", "3", "\x00", "(+ ", " 0"}
	for text := range cotrees {
		check(text)
		for i := range text {
			check(text[:i] + text[i+1:])
			for _, sign := range signs {
				check(text[:i] + sign + text[i:])
				check(text[:i] + sign + text[i+1:])
			}
		}
		for _, sign := range signs {
			check(text + sign)
		}
	}
	for length := range 6 {
		eachString("(+* )01", length, check)
	}
}

func TestGraphOfCotreeRefusesOtherTexts(t *testing.T) {
	for _, text := range []string{
		"", " ", "1", "7", "00", "-1", "+", "()", "(+)", "(*)", "(+ )", "(+ 0)", "(+ 0 )", "(+  0 1)", "(+ 0  1)", "( + 0 1)", "(- 0 1)", "(+ 0,1)",
		"(+ 1 0)", "(+ 0 2)", "(+ 0 0)", "(+ 0 (+ 1 2))", "(* 0 (* 1 2))", "(+ (* 1 2) 0)", "(* 0 (+ 1))", "(+ (* 0) 1)", "(+ 0 1 ", "(+ 0 1]", "(+ 0 1 )",
		"(+ 0 1 2 3 4 5 6 7)", "(+ 0 1 2 3 4 5 7)", "(+ 0 01)", "(+ 0 1)(+ 0 1)", "(+ 0 é)", "(\u00d7 0 1)", "\xff", "(+ 0 (* 1 2)", "(+ 0 +)",
		strings.Repeat("(", 1000), strings.Repeat("(+ ", 5000), strings.Repeat("(+ 0 ", 100000), "(+ 0" + strings.Repeat(" 1", 100000) + ")", strings.Repeat(")", 50), strings.Repeat("0", 50),
	} {
		checkNoGraphOfCotree(t, text)
	}
}

func TestFindPathOfFour(t *testing.T) {
	eachGraph(func(g impl.Graph) {
		want, wantOk := firstList(g, 4, isPathIn)
		got, ok := impl.FindPathOfFour(g)
		checkList(t, "FindPathOfFour of "+formatted(g), got, ok, want, wantOk)
	})
}

func TestCographAnswers(t *testing.T) {
	eachGraph(func(g impl.Graph) {
		if hasPathOfFour(g) {
			return
		}
		clique := bestSet(g, func(set int) bool { return isCliqueIn(g, set) })
		independent := bestSet(g, func(set int) bool { return edgesWithin(g, set) == 0 })
		answers, ok := impl.CographAnswers(g)
		checkList(t, "CographAnswers of "+formatted(g), answers, ok, []int{len(members(clique)), len(members(independent))}, true)
	})
}

func TestTwinOrder(t *testing.T) {
	eachGraph(func(g impl.Graph) {
		want, wantOk := twinOrdered(g)
		got, ok := impl.TwinOrder(g)
		checkList(t, "TwinOrder of "+formatted(g), got, ok, want, wantOk)
		if ok == hasPathOfFour(g) {
			t.Errorf("TwinOrder(%v) = %v, %t", g, got, ok)
		}
	})
}

func TestCotreeOfOneVertex(t *testing.T) {
	g := graphFrom(t, "1:")
	if text, ok := impl.CotreeOf(g); text != "0" || !ok || !impl.IsCograph(g) {
		t.Errorf("CotreeOf one vertex = %q, %t", text, ok)
	}
	back, ok := impl.GraphOfCotree("0")
	checkGraph(t, "GraphOfCotree", back, ok, g, true)
	answers, ok := impl.CographAnswers(g)
	checkList(t, "CographAnswers", answers, ok, []int{1, 1}, true)
	order, ok := impl.TwinOrder(g)
	checkList(t, "TwinOrder", order, ok, []int{0}, true)
	for _, text := range []string{"1", "2", "6", "7", "9", "(0)", "(+ 0)", "(* 0)", " 0", "0 ", "00"} {
		checkNoGraphOfCotree(t, text)
	}
}

func TestCographFunctionsRefuseInvalidGraphs(t *testing.T) {
	for _, g := range invalidGraphs() {
		checkNoCograph(t, g)
		l, ok := impl.FindPathOfFour(g)
		checkNoList(t, "FindPathOfFour", l, ok)
	}
}

func TestCographFunctionsLeaveArgumentsAlone(t *testing.T) {
	for _, plain := range append(invalidGraphs(), graphFrom(t, "4: 01 02 12 13"), graphFrom(t, "5: 01 12 23"), graphOf(7, 12345)) {
		g, checkRows := guardedGraph(plain)
		impl.IsCograph(g)
		impl.CotreeOf(g)
		a, _ := impl.CographAnswers(g)
		b, _ := impl.TwinOrder(g)
		c, _ := impl.FindPathOfFour(g)
		checkApart(t, "results", g.Rows, a, b, c)
		checkRows(t, "a function of chapter 17")
	}
}

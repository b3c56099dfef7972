package tests

import (
	"math"
	"slices"
	"strconv"
	"strings"
	"testing"

	"loop.example/g02081/impl"
)

// edit reads a sign and two digits.
func edit(text string) impl.Edit {
	return impl.Edit{Add: text[0] == '+', V: int(text[1] - '0'), W: int(text[2] - '0')}
}

func editsFrom(texts string) []impl.Edit {
	var l []impl.Edit
	for _, text := range strings.Fields(texts) {
		l = append(l, edit(text))
	}
	return l
}

// editsText writes any edits, whether they are valid or not.
func editsText(l []impl.Edit) string {
	text := ""
	for _, e := range l {
		sign := ",-"
		if e.Add {
			sign = ",+"
		}
		text += sign + strconv.Itoa(e.V) + strconv.Itoa(e.W)
	}
	return strings.TrimPrefix(text, ",")
}

// stagesIn lists the graph before and after each edit, or nothing if one fails.
func stagesIn(g impl.Graph, l []impl.Edit) []impl.Graph {
	stages := []impl.Graph{g}
	for _, e := range l {
		if !areDifferentIn(g, []int{e.V, e.W}) || joined(g, e.V, e.W) == e.Add {
			return nil
		}
		g = impl.Graph{Size: g.Size, Rows: slices.Clone(g.Rows)}
		g.Rows[e.V] ^= 1 << e.W
		g.Rows[e.W] ^= 1 << e.V
		stages = append(stages, g)
	}
	if len(l) > 12 {
		return nil
	}
	return stages
}

func membershipIn(g impl.Graph, l []impl.Edit, name string) []bool {
	var is []bool
	for _, stage := range stagesIn(g, l) {
		is = append(is, isMemberIn(stage, name))
	}
	return is
}

func firstLossIn(is []bool) int {
	for i := 1; i < len(is); i++ {
		if is[i-1] && !is[i] {
			return i - 1
		}
	}
	return -1
}

// eachJournal visits a choice of graphs and edits, of which some fail.
func eachJournal(visit func(g impl.Graph, l []impl.Edit)) {
	state := uint32(32)
	next := func(n int) int {
		state = state*1664525 + 1013904223
		return int(state>>8) % n
	}
	for i := range 600 {
		n := 1 + i%7
		g := graphOf(n, next(1<<(n*(n-1)/2)))
		var l []impl.Edit
		for now := g; len(l) < i%15 && n > 1; {
			v := next(n)
			w := (v + 1 + next(n-1)) % n
			e := impl.Edit{Add: !joined(now, v, w), V: v, W: w}
			if next(60) == 0 {
				e = impl.Edit{Add: next(2) == 0, V: next(n+2) - 1, W: next(n+2) - 1}
			}
			l = append(l, e)
			if stages := stagesIn(now, []impl.Edit{e}); stages != nil {
				now = stages[1]
			}
		}
		visit(g, l)
	}
}

func TestApplyEdits(t *testing.T) {
	applied, failed := 0, 0
	eachJournal(func(g impl.Graph, l []impl.Edit) {
		stages := stagesIn(g, l)
		h, ok := impl.ApplyEdits(g, l)
		if stages == nil {
			failed++
			checkNoGraph(t, "ApplyEdits "+editsText(l), h, ok)
			return
		}
		applied++
		checkGraph(t, "ApplyEdits "+editsText(l), h, ok, stages[len(l)], true)
		checkApart(t, "ApplyEdits", g.Rows, h.Rows)
	})
	if applied < 300 || failed < 30 {
		t.Errorf("%d journals, %d with edits that fail", applied, failed)
	}
	for n := 1; n <= 3; n++ {
		eachGraphOf(n, func(g impl.Graph) {
			eachNumbers(2, -1, 3, func(pair []int) {
				for _, add := range []bool{true, false} {
					l := []impl.Edit{{Add: add, V: pair[0], W: pair[1]}}
					var want impl.Graph
					stages := stagesIn(g, l)
					if stages != nil {
						want = stages[1]
					}
					h, ok := impl.ApplyEdits(g, l)
					checkGraph(t, "ApplyEdits "+editsText(l), h, ok, want, stages != nil)
				}
			})
		})
	}
}

func TestMembershipOfAndFirstLoss(t *testing.T) {
	losses := 0
	eachJournal(func(g impl.Graph, l []impl.Edit) {
		for _, name := range classNames() {
			want := membershipIn(g, l, name)
			if got := impl.MembershipOf(g, l, name); !slices.Equal(got, want) {
				t.Errorf("MembershipOf(%v, %s, %q) = %v, want %v", g, editsText(l), name, got, want)
			}
			if got := impl.FirstLoss(g, l, name); got != firstLossIn(want) {
				t.Errorf("FirstLoss(%v, %s, %q) = %d, want %d", g, editsText(l), name, got, firstLossIn(want))
			}
			if firstLossIn(want) > 0 {
				losses++
			}
		}
		for _, name := range []string{"", "planar"} {
			got := impl.MembershipOf(g, l, name)
			if len(got) != len(stagesIn(g, l)) || slices.Contains(got, true) || impl.FirstLoss(g, l, name) != -1 {
				t.Errorf("MembershipOf(%v, %s, %q) = %v", g, editsText(l), name, got)
			}
		}
	})
	if losses == 0 {
		t.Error("no edit but the first one loses a class")
	}
	g, l := graphFrom(t, "4: 01 12 23"), editsFrom("+02 +03 -02 +02 -12 -01")
	if got := impl.MembershipOf(g, l, "chordal"); !slices.Equal(got, []bool{true, true, true, false, true, true, true}) || impl.FirstLoss(g, l, "chordal") != 2 {
		t.Errorf("MembershipOf = %v, FirstLoss = %d", got, impl.FirstLoss(g, l, "chordal"))
	}
}

func TestEditsThatAreUndoneLeadBack(t *testing.T) {
	undone := 0
	eachJournal(func(g impl.Graph, l []impl.Edit) {
		u := impl.UndoEdits(l)
		if len(u) != len(l) || !slices.Equal(impl.UndoEdits(u), l) {
			t.Errorf("UndoEdits(%s) = %s", editsText(l), editsText(u))
			return
		}
		for i, e := range l {
			if e.Add = !e.Add; u[len(l)-1-i] != e {
				t.Errorf("UndoEdits(%s) = %s", editsText(l), editsText(u))
			}
		}
		h, ok := impl.ApplyEdits(g, l)
		if !ok {
			return
		}
		undone++
		back, ok := impl.ApplyEdits(h, u)
		checkGraph(t, "ApplyEdits of UndoEdits", back, ok, g, true)
		there := impl.MembershipOf(g, l, "chordal")
		slices.Reverse(there)
		if got := impl.MembershipOf(h, u, "chordal"); !slices.Equal(got, there) {
			t.Errorf("MembershipOf(%v, %s) = %v, want %v", h, editsText(u), got, there)
		}
	})
	if undone < 300 {
		t.Errorf("%d journals are undone", undone)
	}
}

func TestUndoEditsAcceptsAnyEdits(t *testing.T) {
	l := []impl.Edit{{Add: true, V: math.MinInt, W: math.MaxInt}, {V: -1, W: -1}, {Add: true}, {V: 7, W: 7}}
	want := []impl.Edit{{Add: true, V: 7, W: 7}, {}, {Add: true, V: -1, W: -1}, {V: math.MinInt, W: math.MaxInt}}
	if got := impl.UndoEdits(l); !slices.Equal(got, want) {
		t.Errorf("UndoEdits = %v", got)
	}
	long := slices.Repeat(l, 100)
	if got := impl.UndoEdits(long); !slices.Equal(got, slices.Repeat(want, 100)) {
		t.Errorf("UndoEdits of %d edits has %d", len(long), len(got))
	}
}

func TestEditsBetween(t *testing.T) {
	check := func(a, b impl.Graph) {
		var want []impl.Edit
		for _, edge := range edgeList(a) {
			if !joined(b, edge[0], edge[1]) {
				want = append(want, impl.Edit{V: edge[0], W: edge[1]})
			}
		}
		for _, edge := range edgeList(b) {
			if !joined(a, edge[0], edge[1]) {
				want = append(want, impl.Edit{Add: true, V: edge[0], W: edge[1]})
			}
		}
		l, ok := impl.EditsBetween(a, b)
		if !ok || !slices.Equal(l, want) {
			t.Errorf("EditsBetween(%v, %v) = %s, %t, want %s", a, b, editsText(l), ok, editsText(want))
		}
		h, ok := impl.ApplyEdits(a, l)
		if len(want) > 12 {
			checkNoGraph(t, "ApplyEdits", h, ok)
			return
		}
		checkGraph(t, "ApplyEdits of EditsBetween", h, ok, b, true)
		back, ok := impl.ApplyEdits(b, impl.UndoEdits(l))
		checkGraph(t, "ApplyEdits of UndoEdits", back, ok, a, true)
	}
	for n := 1; n <= 4; n++ {
		eachGraphOf(n, func(a impl.Graph) {
			eachGraphOf(n, func(b impl.Graph) { check(a, b) })
		})
	}
	for i := range 200 {
		check(graphOf(7, i*7919*3%(1<<21)), graphOf(7, i*104729*5%(1<<21)))
	}
	check(named(t, "empty", 7), named(t, "complete", 7))
	check(named(t, "complete", 7), named(t, "empty", 7))
}

func TestSafeEdits(t *testing.T) {
	eachPartGraph(func(g impl.Graph) {
		for _, name := range append(classNames(), "planar") {
			var want []impl.Edit
			for v := range g.Size {
				for w := v + 1; w < g.Size; w++ {
					e := impl.Edit{Add: !joined(g, v, w), V: v, W: w}
					if isMemberIn(stagesIn(g, []impl.Edit{e})[1], name) {
						want = append(want, e)
					}
				}
			}
			if got := impl.SafeEdits(g, name); !slices.Equal(got, want) {
				t.Errorf("SafeEdits(%v, %q) = %s, want %s", g, name, editsText(got), editsText(want))
			}
		}
	})
}

func checkParseEdits(t *testing.T, s string, want []impl.Edit, wantOk bool) {
	t.Helper()
	l, ok := impl.ParseEdits(s)
	if ok != wantOk || !slices.Equal(l, want) {
		t.Errorf("ParseEdits(%q) = %v, %t, want %v, %t", s, l, ok, want, wantOk)
	}
}

func TestEditsAreParsedFromTheirFormats(t *testing.T) {
	eachNumbers(2, -2, 9, func(pair []int) {
		for _, add := range []bool{true, false} {
			l := []impl.Edit{{Add: true, V: 0, W: 6}, {Add: add, V: pair[0], W: pair[1]}}
			if min(pair[0], pair[1]) < 0 || max(pair[0], pair[1]) > 6 {
				if got := impl.FormatEdits(l); got != "" {
					t.Errorf("FormatEdits(%v) = %q", l, got)
				}
				continue
			}
			if got := impl.FormatEdits(l); got != editsText(l) {
				t.Errorf("FormatEdits(%v) = %q", l, got)
			}
			checkParseEdits(t, editsText(l), l, true)
			checkParseEdits(t, editsText(l[1:]), l[1:], true)
		}
	})
	for _, n := range strangeNumbers() {
		if impl.FormatEdits([]impl.Edit{{V: n}}) != "" || impl.FormatEdits([]impl.Edit{{W: n}}) != "" || impl.FormatEdits([]impl.Edit{{Add: true, V: 1, W: 2}, {V: 0, W: n}}) != "" {
			t.Errorf("FormatEdits accepts %d", n)
		}
	}
	eachJournal(func(g impl.Graph, l []impl.Edit) {
		if text := impl.FormatEdits(l); text != "" {
			checkParseEdits(t, text, l, true)
		} else if len(l) <= 12 && stagesIn(g, l) != nil {
			t.Errorf("FormatEdits(%v) is empty", l)
		}
	})
}

func TestFormatsOfEditsHaveAtMostTwelve(t *testing.T) {
	if impl.MaxEdits != 12 {
		t.Error("MaxEdits", impl.MaxEdits)
	}
	g := named(t, "path", 3)
	twelve := editsFrom(strings.Repeat("+02 -02 ", 6))
	thirteen := editsFrom(strings.Repeat("+02 -02 ", 6) + "+02")
	if got := impl.FormatEdits(twelve); got != editsText(twelve) {
		t.Errorf("FormatEdits of 12 edits = %q", got)
	}
	checkParseEdits(t, editsText(twelve), twelve, true)
	h, ok := impl.ApplyEdits(g, twelve)
	checkGraph(t, "ApplyEdits", h, ok, g, true)
	if n := len(impl.MembershipOf(g, twelve, "chordal")); n != 13 {
		t.Errorf("MembershipOf 12 edits has %d", n)
	}
	if got := impl.FormatEdits(thirteen); got != "" {
		t.Errorf("FormatEdits of 13 edits = %q", got)
	}
	checkParseEdits(t, editsText(thirteen), nil, false)
	h, ok = impl.ApplyEdits(g, thirteen)
	checkNoGraph(t, "ApplyEdits", h, ok)
	if n := len(impl.MembershipOf(g, thirteen, "chordal")); n != 0 || impl.FirstLoss(g, thirteen, "cograph") != -1 || impl.FirstLoss(g, thirteen, "bipartite") != -1 || impl.FirstLoss(g, twelve, "bipartite") != 0 {
		t.Errorf("MembershipOf 13 edits has %d", n)
	}
}

func TestParseEditsRefusesOtherTexts(t *testing.T) {
	for _, s := range []string{
		"", ",", "+", "-", "+0", "+012", "01", "0,1", "+01,", ",+01", "+01,,+02", "+01+02", "+01 ", " +01", "+01, +02", "+01;+02", "*01", "01+", "+0a", "+a0", "+07", "+70", "+08", "+-1", "--1", "+0-", "+01,-0", "+01,none",
		"none,", ",none", "None", "none ", "non", "nonee", "none,none", "+01\n", "\x0001", "+0\xff", "+\xff\xff", "é1", "+é", strings.Repeat("+01,", 12) + "+01", strings.Repeat("+01,", 100000), strings.Repeat(",", 2000), strings.Repeat("+01", 1000),
	} {
		checkParseEdits(t, s, nil, false)
	}
	for length := range 5 {
		eachString("+-,07n", length, func(s string) {
			var want []impl.Edit
			wantOk := len(s) == 3 && (s[0] == '+' || s[0] == '-') && s[1] == '0' && s[2] == '0'
			if wantOk {
				want = []impl.Edit{edit(s)}
			}
			checkParseEdits(t, s, want, wantOk)
		})
	}
}

func TestNoEdits(t *testing.T) {
	for _, none := range [][]impl.Edit{nil, {}} {
		if impl.FormatEdits(none) != "none" || len(impl.UndoEdits(none)) != 0 {
			t.Errorf("FormatEdits of no edits = %q, UndoEdits = %v", impl.FormatEdits(none), impl.UndoEdits(none))
		}
		eachPartGraph(func(g impl.Graph) {
			h, ok := impl.ApplyEdits(g, none)
			checkGraph(t, "ApplyEdits", h, ok, g, true)
			checkApart(t, "ApplyEdits", g.Rows, h.Rows)
			for _, name := range append(classNames(), "planar") {
				if got := impl.MembershipOf(g, none, name); !slices.Equal(got, []bool{isMemberIn(g, name)}) || impl.FirstLoss(g, none, name) != -1 {
					t.Errorf("MembershipOf(%v, none, %q) = %v", g, name, got)
				}
			}
			l, ok := impl.EditsBetween(g, h)
			if len(l) != 0 || !ok {
				t.Errorf("EditsBetween a graph and itself = %v, %t", l, ok)
			}
		})
	}
	checkParseEdits(t, "none", nil, true)
	if l := impl.SafeEdits(graphFrom(t, "1:"), "chordal"); len(l) != 0 {
		t.Errorf("SafeEdits of one vertex = %v", l)
	}
}

func TestJournalFunctionsRefuseInvalidGraphs(t *testing.T) {
	one := graphFrom(t, "1:")
	for _, g := range invalidGraphs() {
		for _, l := range [][]impl.Edit{nil, editsFrom("+01"), editsFrom("-01")} {
			h, ok := impl.ApplyEdits(g, l)
			checkNoGraph(t, "ApplyEdits", h, ok)
			if len(impl.MembershipOf(g, l, "chordal")) != 0 || impl.FirstLoss(g, l, "chordal") != -1 {
				t.Errorf("MembershipOf(%v) = %v", g, impl.MembershipOf(g, l, "chordal"))
			}
		}
		for _, pair := range [][2]impl.Graph{{g, one}, {one, g}, {g, g}} {
			if l, ok := impl.EditsBetween(pair[0], pair[1]); len(l) != 0 || ok {
				t.Errorf("EditsBetween(%v) = %v, %t", pair, l, ok)
			}
		}
		if l := impl.SafeEdits(g, "perfect"); len(l) != 0 {
			t.Errorf("SafeEdits(%v) = %v", g, l)
		}
	}
	for n := 2; n <= 7; n++ {
		if l, ok := impl.EditsBetween(named(t, "empty", n), named(t, "empty", n-1)); len(l) != 0 || ok {
			t.Errorf("EditsBetween graphs of different sizes = %v, %t", l, ok)
		}
	}
}

func TestJournalFunctionsLeaveArgumentsAlone(t *testing.T) {
	for _, plain := range append(invalidGraphs(), graphOf(4, 0b101101), graphOf(4, 0), graphOf(7, 12345)) {
		g, checkRows := guardedGraph(plain)
		h, checkOthers := guardedGraph(named(t, "path", 4))
		whole := editsFrom("+02 +13 -02 -99 +99")
		l := whole[:3]
		impl.MembershipOf(g, l, "chordal")
		impl.FirstLoss(g, l, "chordal")
		impl.FormatEdits(l)
		impl.SafeEdits(g, "split")
		impl.EditsBetween(g, h)
		a, _ := impl.ApplyEdits(g, l)
		b, _ := impl.ApplyEdits(h, l)
		if u := impl.UndoEdits(l); len(u) == 3 {
			u[0], u[1], u[2] = impl.Edit{}, impl.Edit{}, impl.Edit{}
		}
		checkApart(t, "results", g.Rows, h.Rows, a.Rows, b.Rows)
		checkRows(t, "a function of chapter 32")
		checkOthers(t, "a function of chapter 32")
		if !slices.Equal(whole, editsFrom("+02 +13 -02 -99 +99")) {
			t.Errorf("the edits become %v", whole)
		}
	}
}

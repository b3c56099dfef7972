package tests

import (
	"slices"
	"strconv"
	"strings"
	"testing"

	"loop.example/g02081/impl"
)

func numbersIn(l []int) string {
	var texts []string
	for _, n := range l {
		texts = append(texts, strconv.Itoa(n))
	}
	return strings.Join(texts, ",")
}

// digitsIn writes the vertices of a set, or a hyphen.
func digitsIn(set int) string {
	text := strings.ReplaceAll(numbersIn(members(set)), ",", "")
	if text == "" {
		return "-"
	}
	return text
}

func setsIn(sets []int) string {
	var texts []string
	for _, set := range sets {
		texts = append(texts, digitsIn(set))
	}
	return strings.Join(texts, ",")
}

// edgesIn writes edges, or the word none.
func edgesIn(l [][]int) string {
	var texts []string
	for _, edge := range l {
		texts = append(texts, strconv.Itoa(edge[0])+strconv.Itoa(edge[1]))
	}
	if texts == nil {
		return "none"
	}
	return strings.Join(texts, ",")
}

func graphLineIn(g impl.Graph) string {
	line := "graph " + formatted(g) + " degrees " + numbersIn(degreesIn(g)) + " parts " + setsIn(partsIn(g, 1<<g.Size-1)) + " cliques " + setsIn(maximalIn(g))
	if len(partsIn(g, 1<<g.Size-1)) == 1 {
		line += " connected"
	}
	return line
}

func numbersLineIn(g impl.Graph) string {
	clique := len(members(bestSet(g, func(set int) bool { return isCliqueIn(g, set) })))
	independent := len(members(bestSet(g, func(set int) bool { return edgesWithin(g, set) == 0 })))
	band, _ := leastIn(g, bandIn)
	path, _ := leastIn(g, cutOfOrder)
	tree, _ := leastIn(g, widthIn)
	line := ""
	for _, part := range []struct {
		word   string
		number int
	}{
		{"clique", clique}, {"colors", fewestColors(g)}, {"independent", independent}, {"covers", fewestColors(without(g))}, {"matching", len(bestMatching(g))},
		{"dominating", len(members(fewestDominatingIn(g)))}, {"bandwidth", band}, {"pathwidth", path}, {"treewidth", tree},
	} {
		line += part.word + " " + strconv.Itoa(part.number) + " "
	}
	way, around, _ := hamiltonIn(g)
	if way != nil {
		line += "path "
	}
	if around != nil {
		line += "cycle "
	}
	return strings.TrimSuffix(line, " ")
}

func classLineIn(g impl.Graph) string {
	line := "classes"
	for _, name := range classNames() {
		if l, ok := impl.ObstacleFor(g, name); ok {
			line += " -" + name + "(" + numbersIn(l) + ")"
		} else {
			line += " +" + name
		}
	}
	if hasTransitive(g) {
		line += " +comparability"
	}
	if hasTransitive(g) && hasTransitive(without(g)) {
		line += " +permutation"
	}
	if _, ok := prunedIn(g); ok {
		line += " +hereditary"
	}
	return line
}

func modelLineIn(g impl.Graph) string {
	line := "models"
	if !hasHole(g) {
		tree := grownTree(maximalIn(g))
		line += " tree " + digitsIn(tree.Bags[0])
		for i, bag := range tree.Bags[1:] {
			line += " " + strconv.Itoa(tree.Parent[i+1]) + ">" + digitsIn(bag)
		}
	}
	if isMemberIn(g, "interval") {
		m := modelOfSets(cliqueOrdersIn(g)[0], g.Size)
		line += " intervals"
		for v := range g.Size {
			line += " " + strconv.Itoa(m.Left[v]) + "-" + strconv.Itoa(m.Right[v])
		}
	}
	if text := cotreeIn(g, 1<<g.Size-1); text != "" {
		line += " cotree " + text
	}
	if a, b, ok := permutationModelIn(g); ok {
		line += " orders " + numbersIn(a) + " and " + numbersIn(b)
	}
	if l, ok := prunedIn(g); ok {
		line += " prunes " + prunesText(l)
	}
	return line
}

func moduleLineIn(g impl.Graph) string {
	tree, line, depth := moduleTreeIn(g), "modules", 0
	for i, set := range tree.Sets {
		if tree.Kinds[i] != 0 {
			line += " " + digitsIn(set) + []string{"", "parallel", "series", "prime"}[tree.Kinds[i]]
		}
		steps := 0
		for at := i; tree.Parents[at] >= 0; at = tree.Parents[at] {
			steps++
		}
		depth = max(depth, steps)
	}
	if line == "modules" {
		line += " single"
	}
	line += " depth " + strconv.Itoa(depth) + " strong " + strconv.Itoa(len(strongIn(g)))
	if g.Size >= 4 && len(modulesIn(g)) == g.Size+1 {
		line += " prime"
	}
	return line
}

func changeLineIn(g impl.Graph, name string) string {
	set, ok := fewestDeletionsIn(g, name)
	if !ok {
		return ""
	}
	safe := 0
	for v := range g.Size {
		for w := range v {
			if isMemberIn(stagesIn(g, []impl.Edit{{Add: !joined(g, v, w), V: v, W: w}})[1], name) {
				safe++
			}
		}
	}
	return "delete " + digitsIn(set) + " largest " + strconv.Itoa(g.Size-len(members(set))) + " fill " + edgesIn(minimalFillIn(g)) + " safe " + strconv.Itoa(safe)
}

func journalLineIn(g impl.Graph, l []impl.Edit, name string) string {
	stages, is := stagesIn(g, l), membershipIn(g, l, name)
	if stages == nil {
		return ""
	}
	line := "member "
	for _, isMember := range is {
		line += map[bool]string{true: "1", false: "0"}[isMember]
	}
	if i := firstLossIn(is); i >= 0 {
		line += " lost " + editsText(l[i:i+1])
	}
	return line + " end " + formatted(stages[len(l)])
}

func checkLine(t *testing.T, what, got, want string) {
	t.Helper()
	if got != want {
		t.Errorf("%s = %q, want %q", what, got, want)
	}
}

func checkReports(t *testing.T, g impl.Graph) {
	t.Helper()
	checkLine(t, "GraphLine", impl.GraphLine(g), graphLineIn(g))
	checkLine(t, "ClassLine", impl.ClassLine(g), classLineIn(g))
	checkLine(t, "ModelLine", impl.ModelLine(g), modelLineIn(g))
	checkLine(t, "ModuleLine", impl.ModuleLine(g), moduleLineIn(g))
	for _, name := range classNames() {
		checkLine(t, "ChangeLine "+name+" of "+formatted(g), impl.ChangeLine(g, name), changeLineIn(g, name))
	}
}

func TestReports(t *testing.T) {
	eachPartGraph(func(g impl.Graph) { checkReports(t, g) })
	for _, g := range append(fillGraphs()[:3], suns()[0]) {
		checkReports(t, g)
	}
}

func TestNumbersLine(t *testing.T) {
	check := func(g impl.Graph) { checkLine(t, "NumbersLine", impl.NumbersLine(g), numbersLineIn(g)) }
	for n := 1; n <= 4; n++ {
		eachGraphOf(n, check)
	}
	for bits := 0; bits < 1<<10; bits += 11 {
		check(graphOf(5, bits))
	}
	for bits := 1; bits < 1<<15; bits += 2003 {
		check(graphOf(6, bits))
	}
	check(impl.Graph{Size: 7, Rows: rowsFrom("7: 01 02 03 14 25 36")})
}

func TestLinesOfReports(t *testing.T) {
	g := graphFrom(t, "7: 01 02 12 34")
	for what, lines := range map[string][2]string{
		"GraphLine":   {impl.GraphLine(g), "graph 7: 01 02 12 34 degrees 2,2,2,1,1,0,0 parts 012,34,5,6 cliques 012,34,5,6"},
		"NumbersLine": {impl.NumbersLine(g), "clique 3 colors 3 independent 4 covers 4 matching 2 dominating 4 bandwidth 2 pathwidth 2 treewidth 2"},
		"ClassLine":   {impl.ClassLine(g), "classes +chordal +interval +proper +cograph -split(0,1,3,4) -threshold(0,1,3,4) -bipartite(0,1,2) +strong +perfect +comparability +permutation +hereditary"},
		"ModelLine":   {impl.ModelLine(g), "models tree 012 0>34 0>5 0>6 intervals 0-0 0-0 0-0 1-1 1-1 2-2 3-3 cotree (+ (* 0 1 2) (* 3 4) 5 6) orders 0,1,2,3,4,5,6 and 2,1,0,4,3,5,6 prunes 0#1 1-2 2. 3-4 4. 5. 6."},
		"ModuleLine":  {impl.ModuleLine(g), "modules 0123456parallel 012series 34series depth 2 strong 10"},
		"ChangeLine":  {impl.ChangeLine(g, "bipartite"), "delete 0 largest 6 fill none safe 3"},
		"threshold":   {impl.ChangeLine(g, "threshold"), "delete 3 largest 6 fill none safe 1"},
	} {
		checkLine(t, what, lines[0], lines[1])
	}
	five := named(t, "cycle", 5)
	checkLine(t, "ModelLine", impl.ModelLine(five), "models")
	checkLine(t, "ModuleLine", impl.ModuleLine(five), "modules 01234prime depth 1 strong 6 prime")
	checkLine(t, "ClassLine", impl.ClassLine(five), "classes -chordal(0,1,2,3,4) -interval(0,1,2,3,4) -proper(0,1,2,3,4) -cograph(0,1,2,3) -split(0,1,2,3,4) -threshold(0,1,2,3) -bipartite(0,1,2,3,4) -strong(0,1,2,3,4) -perfect(0,1,2,3,4)")
	checkLine(t, "ChangeLine", impl.ChangeLine(five, "split"), "delete 0 largest 4 fill 14,24 safe 0")
}

func TestJournalLine(t *testing.T) {
	lost := 0
	eachJournal(func(g impl.Graph, l []impl.Edit) {
		for _, name := range []string{"chordal", "proper", "cograph", "threshold", "bipartite", "perfect", "planar"} {
			want := journalLineIn(g, l, name)
			checkLine(t, "JournalLine "+editsText(l)+" "+name, impl.JournalLine(g, l, name), want)
			if strings.Contains(want, "lost") {
				lost++
			}
		}
	})
	if lost == 0 {
		t.Error("no class is lost")
	}
	g := graphFrom(t, "4: 01 12 23")
	checkLine(t, "JournalLine", impl.JournalLine(g, editsFrom("+20 +03 -20 -12"), "chordal"), "member 11101 lost -20 end 4: 01 03 23")
	checkLine(t, "JournalLine", impl.JournalLine(g, nil, "chordal"), "member 1 end 4: 01 12 23")
	checkLine(t, "JournalLine", impl.JournalLine(g, editsFrom("+02"), "planar"), "member 00 end 4: 01 02 12 23")
	checkLine(t, "JournalLine", impl.JournalLine(g, editsFrom("+02 +02"), "chordal"), "")
	checkLine(t, "JournalLine", impl.JournalLine(g, editsFrom(strings.Repeat("+02 -02 ", 6)), "split"), "member 1111111111111 end 4: 01 12 23")
	checkLine(t, "JournalLine", impl.JournalLine(g, editsFrom(strings.Repeat("+02 -02 ", 6)+"+02"), "split"), "")
}

func TestReportsOfOneVertex(t *testing.T) {
	g := graphFrom(t, "1:")
	checkLine(t, "GraphLine", impl.GraphLine(g), "graph 1: degrees 0 parts 0 cliques 0 connected")
	checkLine(t, "NumbersLine", impl.NumbersLine(g), "clique 1 colors 1 independent 1 covers 1 matching 0 dominating 1 bandwidth 0 pathwidth 0 treewidth 0 path")
	checkLine(t, "ClassLine", impl.ClassLine(g), "classes +chordal +interval +proper +cograph +split +threshold +bipartite +strong +perfect +comparability +permutation +hereditary")
	checkLine(t, "ModelLine", impl.ModelLine(g), "models tree 0 intervals 0-0 cotree 0 orders 0 and 0 prunes 0.")
	checkLine(t, "ModuleLine", impl.ModuleLine(g), "modules single depth 0 strong 1")
	for _, name := range classNames() {
		checkLine(t, "ChangeLine", impl.ChangeLine(g, name), "delete - largest 1 fill none safe 0")
		checkLine(t, "JournalLine", impl.JournalLine(g, nil, name), "member 1 end 1:")
		checkLine(t, "JournalLine", impl.JournalLine(g, editsFrom("+00"), name), "")
	}
}

func TestReportsAreSingleLines(t *testing.T) {
	eachPartGraph(func(g impl.Graph) {
		for _, line := range []string{impl.GraphLine(g), impl.NumbersLine(g), impl.ClassLine(g), impl.ModelLine(g), impl.ModuleLine(g), impl.ChangeLine(g, "chordal"), impl.JournalLine(g, nil, "chordal")} {
			if line == "" || strings.Contains(line, "\n") || strings.Contains(line, "  ") || strings.TrimSpace(line) != line {
				t.Errorf("a line of %v is %q", g, line)
			}
		}
	})
}

func TestReportsRefuseInvalidArguments(t *testing.T) {
	for _, name := range noClassNames() {
		checkLine(t, "ChangeLine", impl.ChangeLine(named(t, "path", 4), name), "")
	}
	for _, g := range invalidGraphs() {
		for _, line := range []string{impl.GraphLine(g), impl.NumbersLine(g), impl.ClassLine(g), impl.ModelLine(g), impl.ModuleLine(g)} {
			checkLine(t, "a line of an invalid graph", line, "")
		}
		for _, name := range append(classNames(), "planar") {
			checkLine(t, "ChangeLine", impl.ChangeLine(g, name), "")
			checkLine(t, "JournalLine", impl.JournalLine(g, nil, name), "")
			checkLine(t, "JournalLine", impl.JournalLine(g, editsFrom("+01"), name), "")
		}
	}
}

func TestReportsLeaveArgumentsAlone(t *testing.T) {
	for _, plain := range append(invalidGraphs(), graphOf(4, 0b101101), graphOf(4, 0), graphOf(7, 12345)) {
		g, checkRows := guardedGraph(plain)
		whole := editsFrom("+02 +13 -02 -99 +99")
		impl.GraphLine(g)
		impl.NumbersLine(g)
		impl.ClassLine(g)
		impl.ModelLine(g)
		impl.ModuleLine(g)
		impl.ChangeLine(g, "split")
		impl.JournalLine(g, whole[:3], "split")
		checkRows(t, "a function of chapter 34")
		if !slices.Equal(whole, editsFrom("+02 +13 -02 -99 +99")) {
			t.Errorf("JournalLine changes the edits to %v", whole)
		}
	}
}

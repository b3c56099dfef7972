package tests

import (
	"strings"
	"testing"

	"loop.example/g02081/impl"
)

func checkConsole(t *testing.T, text, want string) {
	t.Helper()
	if got := impl.RunConsole(text); got != want {
		t.Errorf("RunConsole(%q) = %q, want %q", text, got, want)
	}
}

func orNoIn(text string) string {
	if text == "" {
		return "no"
	}
	return text
}

func claimText(c impl.Claim, ok bool) string {
	if !ok {
		return "no"
	}
	return impl.FormatClaim(c)
}

// answers are lines about one graph with what they should output.
func answers(g impl.Graph, text string) map[string]string {
	lines := map[string]string{
		"graph " + text:   impl.GraphLine(g),
		"numbers " + text: impl.NumbersLine(g),
		"classes " + text: impl.ClassLine(g),
		"models " + text:  impl.ModelLine(g),
		"modules " + text: impl.ModuleLine(g),
		"colors " + text:  claimText(impl.ClaimOfColors(g)),
		"fill " + text:    claimText(impl.ClaimOfFill(g)),
		"packing " + text: claimText(impl.ClaimOfPacking(g)),
	}
	for _, name := range classNames() {
		lines["claim "+text+" "+name] = claimText(impl.ClaimOfClass(g, name))
		lines["change "+text+" "+name] = orNoIn(impl.ChangeLine(g, name))
		for _, edits := range []string{"none", "+01", "-01", "+02,-02", "-01,+01,-01", "+00", "-66"} {
			l, _ := impl.ParseEdits(edits)
			lines["journal "+text+" "+name+" "+edits] = orNoIn(impl.JournalLine(g, l, name))
		}
	}
	return lines
}

func TestLinesAboutGraphs(t *testing.T) {
	check := func(g impl.Graph, text string) {
		for line, want := range answers(g, text) {
			checkConsole(t, line, want+"\n")
		}
	}
	for _, name := range []string{"path", "cycle", "complete", "star", "wheel", "empty"} {
		for n := 1; n <= 7; n++ {
			check(named(t, name, n), name+string(rune('0'+n)))
		}
	}
	for n := 1; n <= 3; n++ {
		eachGraphOf(n, func(g impl.Graph) { check(g, strings.ReplaceAll(formatted(g), " ", ".")) })
	}
	for bits := 0; bits < 1<<10; bits += 89 {
		g := graphOf(5, bits)
		check(g, strings.ReplaceAll(formatted(g), " ", "."))
	}
	for _, g := range append(suns()[:2], fillGraphs()[1:3]...) {
		check(g, strings.ReplaceAll(formatted(g), " ", "."))
	}
}

func TestLinesAboutCotrees(t *testing.T) {
	for text, g := range cotreesUpTo4() {
		checkConsole(t, "cotree "+strings.ReplaceAll(text, " ", "."), formatted(g)+"\n")
	}
	for _, text := range []string{"", ".", "1", "(+.0)", "(*.0.1", "(+.1.0)", "path4", "3:.01", "(*.0.1).", "(*..0.1)", "(*,0,1)", "\x00", "é"} {
		checkConsole(t, "cotree "+text, "no\n")
	}
	for _, line := range []string{"cotree", "cotree 0 1", "cotree (* 0 1)", "cotree 0 ", "cotree  0", "cotrees 0", "Cotree 0"} {
		checkConsole(t, line, "what\n")
	}
	checkConsole(t, "cotree (+.(*.0.1).2)\ncotree 0\n", "3: 01\n1:\n")
}

func TestOtherLinesOutputWhat(t *testing.T) {
	for _, line := range []string{
		" ", "  ", "what", "x", "graph", "graph ", " graph path4", "graph path4 ", "graph  path4", "graph\tpath4", "graph path4\r", "Graph path4", "graphs path4", "graphpath4", "graph path4 chordal", "graph path4 chordal none",
		"graph path0", "graph path8", "graph path9", "graph path10", "graph path04", "graph path+4", "graph path-4", "graph path", "graph 4", "graph path4.", "graph .path4", "graph Path4", "graph planar4", "graph path 4", "graph \x004", "graph path\xff",
		"graph 3", "graph 3:01", "graph 3:.01.", "graph 3:.01.01", "graph 3:.02.01", "graph 3:.10", "graph 3:.03", "graph 3:..01", "graph 3:.01 02", "graph 0:", "graph 8:", "graph :", "graph (*.0.1)", "graph 3:,01",
		"numbers", "numbers path4 path4", "classes x", "models 3:.01 02", "modules path", "colors", "colors path4 chordal", "fill", "fill path4 13", "packing", "packing path4 none", "go path4", "run", "no path4", "member path4",
		"claim", "claim path4", "claim path4 planar", "claim path4 Chordal", "claim path4 ", "claim chordal path4", "claim path8 chordal", "claim path4 chordal none", "claim path4 chordal chordal", "claim path4 chordal,split", "claim  chordal",
		"change", "change path4", "change path4 planar", "change path4 chordal none", "change path0 chordal", "change path4 chordal ", "change path4  chordal",
		"journal", "journal path4", "journal path4 chordal", "journal path4 chordal ", "journal path4 chordal x", "journal path4 chordal +0", "journal path4 chordal +07", "journal path4 chordal +01,", "journal path4 chordal +01, +02", "journal path4 planar +01", "journal path4 none chordal",
		"journal x chordal none", "journal path4 +01", "journal path4 chordal none none", "journal path4 chordal +01 -01", "journal path4 chordal None", "journal path4 chordal " + strings.TrimSuffix(strings.Repeat("+02,-02,", 6), ",") + ",+02",
	} {
		checkConsole(t, line, "what\n")
		checkConsole(t, "cotree 0\n"+line+"\ncotree 0\n", "1:\nwhat\n1:\n")
	}
	checkConsole(t, "journal path4 chordal "+strings.TrimSuffix(strings.Repeat("+02,-02,", 6), ","), "member 1111111111111 end 4: 01 12 23\n")
}

func TestLineWithFiveParts(t *testing.T) {
	checkConsole(t, "journal path4 chordal +03", "member 10 lost +03 end 4: 01 03 12 23\n")
	for _, line := range []string{
		"journal path4 chordal +03 +02", "journal path4 chordal +03 none", "journal path4 chordal +03 ", "journal path4 chordal +03 x", "journal path4 chordal chordal +03", "journal path4 path4 chordal +03",
		"claim path4 chordal chordal chordal", "graph path4 path4 path4 path4", "cotree 0 1 2 3", "a b c d e", "    ", "journal path4 chordal +03 +02 -02",
	} {
		checkConsole(t, line, "what\n")
	}
}

func TestLinesDoNotDependOnLaterLines(t *testing.T) {
	lines := []string{
		"graph path4", "numbers cycle5", "what", "classes wheel5", "", "models 3:.01.02", "modules 5:.01.02.12.13.34", "colors cycle5", "fill cycle6", "packing star5", "",
		"claim cycle4 chordal", "claim complete3 perfect", "change cycle5 bipartite", "journal path4 cograph +03,-03", "journal path4 cograph +01", "cotree (*.0.(+.1.2))", "cotree (+.0)", "graph path9", "packing cycle4",
	}
	single := make([]string, len(lines))
	for i, line := range lines {
		single[i] = impl.RunConsole(line)
		if n := strings.Count(single[i], "\n"); n != 1 && line != "" || n != 0 && line == "" {
			t.Errorf("RunConsole(%q) has %d lines", line, n)
		}
	}
	for from := range lines {
		for to := from; to <= len(lines); to++ {
			text, want := strings.Join(lines[from:to], "\n"), strings.Join(single[from:to], "")
			checkConsole(t, text, want)
			if to < len(lines) {
				checkConsole(t, text+"\n", want)
			}
		}
	}
}

func TestConsoleHasLimits(t *testing.T) {
	if impl.MaxConsole != 2000 || impl.MaxLines != 20 {
		t.Error("MaxConsole", impl.MaxConsole, "MaxLines", impl.MaxLines)
	}
	checkConsole(t, strings.Repeat("x", 2000), "what\n")
	checkConsole(t, strings.Repeat("x", 1999)+"\n", "what\n")
	checkConsole(t, strings.Repeat("x", 2001), "")
	checkConsole(t, strings.Repeat("x", 2000)+"\n", "")
	checkConsole(t, "cotree 0\n"+strings.Repeat("x", 1991), "1:\nwhat\n")
	checkConsole(t, "cotree 0\n"+strings.Repeat("x", 1992), "")
	checkConsole(t, strings.Repeat("x", 1000000), "")
	checkConsole(t, strings.Repeat("cotree 0\n", 20), strings.Repeat("1:\n", 20))
	checkConsole(t, strings.Repeat("cotree 0\n", 19)+"cotree 0", strings.Repeat("1:\n", 20))
	checkConsole(t, strings.Repeat("cotree 0\n", 21), "")
	checkConsole(t, strings.Repeat("cotree 0\n", 20)+"cotree 0", "")
	checkConsole(t, strings.Repeat("cotree 0\n", 20)+"\n", "")
	checkConsole(t, strings.Repeat("\n", 19)+"cotree 0", "1:\n")
	checkConsole(t, strings.Repeat("\n", 19)+"cotree 0\n", "1:\n")
	checkConsole(t, strings.Repeat("\n", 20)+"cotree 0", "")
	checkConsole(t, "cotree 0"+strings.Repeat("\n", 20), "1:\n")
	checkConsole(t, "cotree 0"+strings.Repeat("\n", 21), "")
}

func TestEmptyLinesOutputNothing(t *testing.T) {
	for n := range 25 {
		checkConsole(t, strings.Repeat("\n", n), "")
	}
	checkConsole(t, "", "")
	checkConsole(t, "\n\ncotree 0\n\n\nx\n\n", "1:\nwhat\n")
	checkConsole(t, "\r\n", "what\n")
}

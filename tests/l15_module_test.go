package tests

import (
	"slices"
	"testing"

	"loop.example/g02081/impl"
)

// isModuleIn compares, for each vertex outside, its edges to any two vertices of the set.
func isModuleIn(g impl.Graph, set int) bool {
	for v := range g.Size {
		for _, a := range members(set) {
			for _, b := range members(set) {
				if set>>v&1 == 0 && joined(g, v, a) != joined(g, v, b) {
					return false
				}
			}
		}
	}
	return set != 0
}

func modulesIn(g impl.Graph) []int {
	var modules []int
	eachSet(g, func(set int) {
		if isModuleIn(g, set) {
			modules = append(modules, set)
		}
	})
	return modules
}

func strongIn(g impl.Graph) []int {
	var strong []int
	modules := modulesIn(g)
	for _, a := range modules {
		alone := true
		for _, b := range modules {
			alone = alone && (a&b == 0 || a&b == a || a&b == b)
		}
		if alone {
			strong = append(strong, a)
		}
	}
	return strong
}

func TestModules(t *testing.T) {
	eachGraph(func(g impl.Graph) {
		eachSet(g, func(set int) {
			if impl.IsModule(g, set) != isModuleIn(g, set) {
				t.Errorf("IsModule(%v, %d) is %t", g, set, impl.IsModule(g, set))
			}
		})
		want := modulesIn(g)
		if got := impl.ModulesOf(g); !slices.Equal(got, want) {
			t.Errorf("ModulesOf(%v) = %v, want %v", g, got, want)
		}
		if prime := g.Size >= 4 && len(want) == g.Size+1; impl.IsPrime(g) != prime {
			t.Errorf("IsPrime(%v) is %t", g, !prime)
		}
		for v := range g.Size {
			twins := 0
			for w := range g.Size {
				if w != v && isModuleIn(g, 1<<v|1<<w) {
					twins |= 1 << w
				}
			}
			if got := impl.TwinsOf(g, v); got != twins {
				t.Errorf("TwinsOf(%v, %d) = %d, want %d", g, v, got, twins)
			}
		}
	})
}

func TestStrongModules(t *testing.T) {
	eachGraph(func(g impl.Graph) {
		want := strongIn(g)
		got := impl.StrongModules(g)
		if !slices.Equal(got, want) {
			t.Errorf("StrongModules(%v) = %v, want %v", g, got, want)
		}
		for v := range g.Size {
			if !slices.Contains(got, 1<<v) || !slices.Contains(got, 1<<g.Size-1) {
				t.Errorf("StrongModules(%v) = %v", g, got)
			}
		}
	})
	got := impl.StrongModules(graphFrom(t, "7: 01 02 12 34 45"))
	if want := []int{1, 2, 4, 7, 8, 16, 32, 40, 56, 64, 127}; !slices.Equal(got, want) {
		t.Errorf("StrongModules = %v, want %v", got, want)
	}
}

func TestLeastModule(t *testing.T) {
	eachGraph(func(g impl.Graph) {
		modules := modulesIn(g)
		eachSet(g, func(set int) {
			want := 0
			for _, module := range modules {
				if module&set == set && set != 0 && (want == 0 || len(members(module)) < len(members(want))) {
					want = module
				}
			}
			if got := impl.LeastModule(g, set); got != want {
				t.Errorf("LeastModule(%v, %d) = %d, want %d", g, set, got, want)
			}
		})
	})
}

// eachPartition visits the lists of sets that have each vertex once, in several orders.
func eachPartition(n int, visit func(parts []int)) {
	var place func(v int, parts []int)
	place = func(v int, parts []int) {
		if v == n {
			visit(parts)
			return
		}
		for i := range parts {
			more := slices.Clone(parts)
			more[i] |= 1 << v
			place(v+1, more)
		}
		for i := range len(parts) + 1 {
			place(v+1, slices.Insert(slices.Clone(parts), i, 1<<v))
		}
	}
	place(0, nil)
}

// quotientIn joins parts if any two vertices of them are neighbors.
func quotientIn(g impl.Graph, parts []int) (impl.Graph, bool) {
	q := impl.Graph{Size: len(parts), Rows: make([]int, len(parts))}
	for i, a := range parts {
		if !isModuleIn(g, a) {
			return impl.Graph{}, false
		}
		for j, b := range parts {
			for _, v := range members(a) {
				if i != j && g.Rows[v]&b != 0 {
					q.Rows[i] |= 1 << j
				}
			}
		}
	}
	return q, true
}

func TestQuotientOf(t *testing.T) {
	check := func(g impl.Graph) {
		eachPartition(g.Size, func(parts []int) {
			want, wantOk := quotientIn(g, parts)
			got, ok := impl.QuotientOf(g, parts)
			checkGraph(t, "QuotientOf "+formatted(g), got, ok, want, wantOk)
		})
	}
	for n := 1; n <= 4; n++ {
		eachGraphOf(n, check)
	}
	for bits := 0; bits < 1<<10; bits += 31 {
		check(graphOf(5, bits))
	}
}

func TestQuotientOfRefusesWhatIsNoPartition(t *testing.T) {
	g := graphFrom(t, "5: 01 02 12 13 34")
	for _, parts := range [][]int{nil, {}, {31, 0}, {0, 31}, {5, 2, 8}, {5, 2, 8, 16, 16}, {5, 2, 8, 16, 1}, {5, 1, 2, 8, 16}, {5, 2, 8, 16, 0}, {5, 2, 24}, {3, 4, 8, 16}, {31, 31}, {5, 2, 8, 16, 32}, {1, 2, 4, 8, 48}} {
		q, ok := impl.QuotientOf(g, parts)
		checkNoGraph(t, "QuotientOf", q, ok)
	}
	for _, set := range strangeNumbers() {
		q, ok := impl.QuotientOf(g, []int{5, 2, 8, 16, set})
		checkNoGraph(t, "QuotientOf", q, ok)
		q, ok = impl.QuotientOf(g, []int{5, 2, 8, set})
		checkNoGraph(t, "QuotientOf", q, ok)
	}
}

func TestSetOfAllVerticesIsAModule(t *testing.T) {
	eachGraph(func(g impl.Graph) {
		all := 1<<g.Size - 1
		modules, strong := impl.ModulesOf(g), impl.StrongModules(g)
		if !impl.IsModule(g, all) || modules[len(modules)-1] != all || strong[len(strong)-1] != all || impl.LeastModule(g, all) != all {
			t.Errorf("the set of all vertices is no module of %v", g)
		}
		q, ok := impl.QuotientOf(g, []int{all})
		checkGraph(t, "QuotientOf", q, ok, graphFrom(t, "1:"), true)
	})
}

func TestPrimeGraphs(t *testing.T) {
	for text, want := range map[string]bool{
		"1:": false, "2:": false, "2: 01": false, "3: 01 12": false, "4: 01 12 23": true, "4: 01 03 12 23": false,
		"5: 01 04 12 23 34": true, "6: 01 02 03 12 14 25": true, "7: 01 02 03 14 25 36": true, "7: 01 12 23 34 45 56": true, "5: 01 12 23": false,
	} {
		if impl.IsPrime(graphFrom(t, text)) != want {
			t.Errorf("IsPrime of %q is %t", text, !want)
		}
	}
}

func TestModuleFunctionsRefuseInvalidArguments(t *testing.T) {
	g := graphFrom(t, "3: 01 12")
	for _, n := range append(strangeNumbers(), 8, 64) {
		if impl.IsModule(g, n) || impl.LeastModule(g, n) != 0 || impl.TwinsOf(g, n) != 0 {
			t.Errorf("%d is accepted", n)
		}
	}
	if impl.IsModule(g, 0) || impl.LeastModule(g, 0) != 0 || impl.TwinsOf(g, 3) != 0 {
		t.Error("the empty set or the vertex 3 is accepted")
	}
	for _, g := range invalidGraphs() {
		if len(impl.ModulesOf(g)) != 0 || len(impl.StrongModules(g)) != 0 || impl.IsPrime(g) {
			t.Errorf("%v has modules", g)
		}
		for n := range 9 {
			q, ok := impl.QuotientOf(g, []int{n})
			checkNoGraph(t, "QuotientOf", q, ok)
			if impl.IsModule(g, n) || impl.LeastModule(g, n) != 0 || impl.TwinsOf(g, n) != 0 {
				t.Errorf("%v is accepted with %d", g, n)
			}
		}
		q, ok := impl.QuotientOf(g, nil)
		checkNoGraph(t, "QuotientOf", q, ok)
	}
}

func TestModuleFunctionsLeaveArgumentsAlone(t *testing.T) {
	for _, plain := range append(invalidGraphs(), graphFrom(t, "5: 01 02 12 13 34"), graphOf(7, 12345)) {
		g, checkRows := guardedGraph(plain)
		parts, checkParts := guarded([]int{16, 5, 8, 2})
		impl.IsModule(g, 5)
		impl.IsPrime(g)
		impl.LeastModule(g, 3)
		impl.TwinsOf(g, 0)
		q, _ := impl.QuotientOf(g, parts)
		checkApart(t, "results", g.Rows, parts, q.Rows, impl.ModulesOf(g), impl.StrongModules(g))
		checkRows(t, "a function of chapter 15")
		checkParts(t, "a function of chapter 15")
	}
}

package tests

import (
	"slices"
	"testing"

	"loop.example/constraintsolver/impl"
)

// areNeighbours is the document's relation between two variables of m.
func areNeighbours(m impl.Model, u int, v int) bool {
	return u != v && slices.ContainsFunc(m.Constraints, func(c impl.Constraint) bool {
		return slices.Contains(c.Vars, u) && slices.Contains(c.Vars, v)
	})
}

// neighboursOf is Neighbours by its definition.
func neighboursOf(m impl.Model, v int) []int {
	var list []int
	for u := range m.Domains {
		if areNeighbours(m, u, v) {
			list = append(list, u)
		}
	}
	return list
}

// leads reports whether a sequence of neighbours leads from u to v in which all variables but the last one are allowed.
func leads(m impl.Model, u int, v int, allowed []int) bool {
	if u == v {
		return true
	}
	if !slices.Contains(allowed, u) {
		return false
	}
	rest := slices.DeleteFunc(slices.Clone(allowed), func(w int) bool { return w == u })
	return slices.ContainsFunc(neighboursOf(m, u), func(w int) bool { return leads(m, w, v, rest) })
}

// componentsOf is Components by its definition.
func componentsOf(m impl.Model) []int {
	all := others(len(m.Domains), nil)
	var smallest []int
	for v := range m.Domains {
		smallest = append(smallest, slices.IndexFunc(all, func(u int) bool { return leads(m, u, v, all) }))
	}
	return smallest
}

// separates is IsSeparator by its definition, for valid arguments.
func separates(m impl.Model, vars []int, u int, v int) bool {
	return !slices.Contains(vars, u) && !slices.Contains(vars, v) && !leads(m, u, v, others(len(m.Domains), vars))
}

// widthOf is EliminationWidth by its definition. A later variable is a neighbour when a variable is eliminated if a sequence
// of neighbours leads to it through variables that have been eliminated before.
func widthOf(m impl.Model, order []int) int {
	width := 0
	for i, v := range order {
		n := 0
		for _, u := range order[i+1:] {
			if leads(m, v, u, order[:i+1]) {
				n++
			}
		}
		width = max(width, n)
	}
	return width
}

// ordersOf lists the orders of n variables in lexicographic order.
func ordersOf(n int) [][]int {
	return slices.DeleteFunc(allAssignments(n), func(x []int) bool {
		return len(others(n, x)) > 0
	})
}

// bestOrderOf is BestOrder by its definition, with the number of orders that are as good.
func bestOrderOf(m impl.Model) ([]int, int) {
	return firstLeast(ordersOf(len(m.Domains)), func(order []int) int { return widthOf(m, order) })
}

// partOf is SubModel by its definition, for valid arguments.
func partOf(m impl.Model, vars []int) impl.Model {
	var part impl.Model
	for _, v := range vars {
		part.Domains = append(part.Domains, m.Domains[v])
	}
	for _, c := range m.Constraints {
		c = cloneConstraint(c)
		for i, v := range c.Vars {
			c.Vars[i] = slices.Index(vars, v)
		}
		if !slices.Contains(c.Vars, -1) {
			part.Constraints = append(part.Constraints, c)
		}
	}
	return part
}

// sparse returns a model with few neighbours, most often of four variables.
func (s source) sparse() impl.Model {
	n := max(s.between(1, 4), s.between(1, 4), s.between(1, 4))
	m := impl.Model{Domains: s.list(n, 1, 63)}
	for range s.between(0, 5) {
		c := s.constraint(n)
		if len(c.Vars) > 2 && s.IntN(5) > 0 {
			c = impl.Constraint{Kind: impl.AllDifferent, Vars: s.Perm(n)[:s.between(1, 2)]}
		}
		m.Constraints = append(m.Constraints, c)
	}
	if s.IntN(20) == 0 {
		m.Domains[s.IntN(n)] = 0
	}
	return m
}

// variableSet returns a set of variables below n, which may be empty.
func (s source) variableSet(n int) []int {
	set := s.Perm(n)[:s.between(0, n)]
	slices.Sort(set)
	return set
}

// edges returns a model with n variables and a NotEqual constraint for each pair of them.
func edges(n int, pairs ...[2]int) impl.Model {
	m := impl.Model{Domains: slices.Repeat([]int{63}, n)}
	for _, p := range pairs {
		m.Constraints = append(m.Constraints, impl.Constraint{Kind: impl.NotEqual, Vars: []int{p[0], p[1]}, Args: []int{0}})
	}
	return m
}

// graphs lists a model for each set of pairs of four variables that are neighbours.
func graphs() []impl.Model {
	pairs := [][2]int{{0, 1}, {0, 2}, {0, 3}, {1, 2}, {1, 3}, {2, 3}}
	var list []impl.Model
	for set := range 64 {
		var chosen [][2]int
		for _, i := range valuesOf(set) {
			chosen = append(chosen, pairs[i])
		}
		list = append(list, edges(4, chosen...))
	}
	return list
}

// invalidVariables lists numbers that are no variable below n.
func invalidVariables(n int) []int {
	return []int{-1, -2, n, n + 1, 4, 5, 63, 64, 65, -64, 1 << 32, smallestInt, largestInt}
}

// invalidVariableSets lists what is no set of variables below n.
func invalidVariableSets(n int) [][]int {
	sets := append(invalidVariableLists(n), []int{0, 0}, []int{n - 1, n - 1}, make([]int, n+1), others(n+1, nil))
	if n > 1 {
		sets = append(sets, []int{1, 0}, []int{n - 1, 0}, []int{0, 1, 1}, []int{0, 0, 1}, []int{0, 1, 0})
	}
	if n > 2 {
		sets = append(sets, []int{0, 2, 1}, []int{2, 1, 0}, []int{1, 0, 2})
	}
	return sets
}

// invalidOrders lists what is no order of n variables.
func invalidOrders(n int) [][]int {
	all := others(n, nil)
	list := append(invalidVariableSets(n), nil, all[:n-1], all[1:], append(slices.Clone(all), n-1), append(slices.Clone(all), n))
	for i := range n {
		for _, v := range invalidVariables(n) {
			order := slices.Clone(all)
			order[i] = v
			list = append(list, order)
		}
	}
	return slices.DeleteFunc(list, func(order []int) bool { return isIn(ordersOf(n), order) })
}

// checkNeighbours reports a variable that does not have the wanted Neighbours.
func checkNeighbours(t *testing.T, m impl.Model, v int, want ...int) {
	t.Helper()
	if got := impl.Neighbours(m, v); !slices.Equal(got, want) {
		t.Errorf("Neighbours(%+v, %d) = %v, want %v", m, v, got, want)
	}
}

// checkComponents reports a model that does not have the wanted Components.
func checkComponents(t *testing.T, m impl.Model, want ...int) {
	t.Helper()
	if got := impl.Components(m); !slices.Equal(got, want) {
		t.Errorf("Components(%+v) = %v, want %v", m, got, want)
	}
}

// checkSubModel reports a set of variables for which SubModel does not return the wanted model.
func checkSubModel(t *testing.T, m impl.Model, vars []int, want impl.Model) {
	t.Helper()
	if got, ok := impl.SubModel(m, vars); !ok || !sameModel(got, want) {
		t.Errorf("SubModel(%+v, %v) = %+v, %v, want %+v", m, vars, got, ok, want)
	}
}

// checkNoSubModel reports variables that SubModel should not accept.
func checkNoSubModel(t *testing.T, m impl.Model, vars []int) {
	t.Helper()
	if got, ok := impl.SubModel(m, vars); ok || !isZeroModel(got) {
		t.Errorf("SubModel(%+v, %v) = %+v, %v", m, vars, got, ok)
	}
}

// checkSeparator reports variables that IsSeparator judges wrongly.
func checkSeparator(t *testing.T, m impl.Model, vars []int, u int, v int, want bool) {
	t.Helper()
	if impl.IsSeparator(m, vars, u, v) != want {
		t.Errorf("IsSeparator(%+v, %v, %d, %d) = %v", m, vars, u, v, !want)
	}
}

// checkWidth reports an order whose EliminationWidth is not the wanted one.
func checkWidth(t *testing.T, m impl.Model, order []int, want int) {
	t.Helper()
	if got := impl.EliminationWidth(m, order); got != want {
		t.Errorf("EliminationWidth(%+v, %v) = %d, want %d", m, order, got, want)
	}
}

// checkBestOrder reports a model of which BestOrder does not return what is wanted.
func checkBestOrder(t *testing.T, m impl.Model, want []int, wantWidth int) {
	t.Helper()
	if order, width := impl.BestOrder(m); !slices.Equal(order, want) || width != wantWidth {
		t.Errorf("BestOrder(%+v) = %v, %d, want %v, %d", m, order, width, want, wantWidth)
	}
}

func TestPromise111BeingNeighboursIsSymmetric(t *testing.T) {
	s := newSource(220)
	seen := map[bool]int{}
	for range 500 {
		m := s.sparse()
		for u := range m.Domains {
			list := impl.Neighbours(m, u)
			if slices.Contains(list, u) || !slices.IsSorted(list) || len(slices.Compact(slices.Clone(list))) != len(list) {
				t.Fatalf("Neighbours(%+v, %d) = %v", m, u, list)
			}
			for v := range m.Domains {
				if slices.Contains(list, v) != slices.Contains(impl.Neighbours(m, v), u) {
					t.Fatalf("Neighbours(%+v, %d) = %v, but Neighbours of %d are %v", m, u, list, v, impl.Neighbours(m, v))
				}
				seen[slices.Contains(list, v)]++
			}
			checkNeighbours(t, m, u, neighboursOf(m, u)...)
		}
	}
	if seen[true] < 500 || seen[false] < 500 {
		t.Errorf("the models were not balanced: %v", seen)
	}
}

func TestNeighbours(t *testing.T) {
	m := edges(4, [2]int{0, 1}, [2]int{3, 1})
	checkNeighbours(t, m, 0, 1)
	checkNeighbours(t, m, 1, 0, 3)
	checkNeighbours(t, m, 2)
	checkNeighbours(t, m, 3, 1)
	// Two constraints with the same variables, and one that repeats an edge of a larger one.
	m = edges(4, [2]int{0, 2}, [2]int{2, 0}, [2]int{0, 2})
	checkNeighbours(t, m, 0, 2)
	checkNeighbours(t, m, 2, 0)
	m.Constraints = append(m.Constraints, impl.Constraint{Kind: impl.AllDifferent, Vars: []int{3, 2, 0}})
	checkNeighbours(t, m, 0, 2, 3)
	checkNeighbours(t, m, 1)
	checkNeighbours(t, m, 2, 0, 3)
	checkNeighbours(t, m, 3, 0, 2)
	// A constraint with one variable has no edge, however often it occurs.
	checkNeighbours(t, full(7, 7), 0)
	checkNeighbours(t, full(7, 7), 1)
	checkNeighbours(t, impl.Model{Domains: []int{63}}, 0)
	// Neither the kind matters, nor what is in the domains, nor whether the constraint excludes anything.
	for _, c := range []impl.Constraint{
		{Kind: impl.Linear, Vars: []int{2, 0}, Args: []int{0, 0}},
		{Kind: impl.Element, Vars: []int{2, 0}, Args: []int{0}},
		{Kind: impl.Count, Vars: []int{2, 0}, Args: []int{0}},
		{Kind: impl.Cumulative, Vars: []int{2, 0}, Args: []int{0, 0, 0, 0}},
		{Kind: impl.Circuit, Vars: []int{2, 0}},
		table([]int{2, 0}, []int{0, 0}),
	} {
		m := impl.Model{Domains: []int{1, 0, 0}, Constraints: []impl.Constraint{c}}
		checkNeighbours(t, m, 0, 2)
		checkNeighbours(t, m, 1)
		checkNeighbours(t, m, 2, 0)
	}
	m = impl.Model{Domains: []int{0, 0, 0, 0}, Constraints: slices.Repeat([]impl.Constraint{{Kind: impl.AllDifferent, Vars: []int{3, 1, 0, 2}}}, 6)}
	for v := range 4 {
		checkNeighbours(t, m, v, others(4, []int{v})...)
	}
}

func TestPromise112ComponentsAreClosedUnderNeighbours(t *testing.T) {
	s := newSource(221)
	counts := map[int]int{}
	for range 600 {
		m := s.sparse()
		entries := impl.Components(m)
		if len(entries) != len(m.Domains) {
			t.Fatalf("Components(%+v) = %v", m, entries)
		}
		for v, entry := range entries {
			if entry > v || entries[entry] != entry {
				t.Fatalf("Components(%+v) = %v", m, entries)
			}
			for _, u := range impl.Neighbours(m, v) {
				if entries[u] != entry {
					t.Fatalf("Components(%+v) = %v, but %d and %d are neighbours", m, entries, u, v)
				}
			}
		}
		checkComponents(t, m, componentsOf(m)...)
		if len(entries) == 4 {
			slices.Sort(entries)
			counts[len(slices.Compact(entries))]++
		}
	}
	for n := 1; n <= 4; n++ {
		if counts[n] < 20 {
			t.Errorf("the models were not balanced: %v", counts)
		}
	}
}

func TestComponents(t *testing.T) {
	for _, m := range graphs() {
		checkComponents(t, m, componentsOf(m)...)
	}
	checkComponents(t, edges(4), 0, 1, 2, 3)
	checkComponents(t, full(1, 2, 4, 0), 0, 1, 2, 3)
	checkComponents(t, edges(1), 0)
	checkComponents(t, edges(4, [2]int{3, 1}), 0, 1, 2, 1)
	checkComponents(t, edges(4, [2]int{0, 3}, [2]int{2, 1}), 0, 1, 1, 0)
	checkComponents(t, edges(4, [2]int{0, 3}, [2]int{3, 2}, [2]int{2, 1}), 0, 0, 0, 0)
	checkComponents(t, edges(4, [2]int{1, 3}, [2]int{3, 2}, [2]int{1, 3}), 0, 1, 1, 1)
	checkComponents(t, impl.Model{Domains: []int{0, 0, 0}, Constraints: []impl.Constraint{{Kind: impl.Circuit, Vars: []int{2, 1}}}}, 0, 1, 1)
}

func TestPromise113ComponentsAreIndependent(t *testing.T) {
	s := newSource(222)
	seen := map[bool]int{}
	for range 400 {
		m := s.sparse()
		product := 1
		entries := impl.Components(m)
		for v, entry := range entries {
			if entry != v {
				continue
			}
			set := slices.DeleteFunc(others(len(entries), nil), func(u int) bool { return entries[u] != v })
			part, ok := impl.SubModel(m, set)
			if !ok {
				t.Fatalf("SubModel(%+v, %v) fails", m, set)
			}
			product *= impl.CountSolutions(part)
		}
		if n := impl.CountSolutions(m); n != product {
			t.Fatalf("%+v has %d solutions, but the components together %d", m, n, product)
		}
		seen[product > 1 && entries[len(entries)-1] > 0]++
	}
	if seen[true] < 80 || seen[false] < 80 {
		t.Errorf("the models were not balanced: %v", seen)
	}
}

func TestPromise114SubmodelIsARelaxation(t *testing.T) {
	s := newSource(223)
	kept := map[bool]int{}
	for i := range 600 {
		m := s.sparse()
		if i%3 == 0 {
			m = s.someModel()
		}
		checkSubModel(t, m, others(len(m.Domains), nil), m)
		vars := s.variableSet(len(m.Domains))
		if len(vars) == 0 {
			checkNoSubModel(t, m, vars)
			continue
		}
		part, ok := impl.SubModel(m, vars)
		if !ok || !impl.ValidModel(part) {
			t.Fatalf("SubModel(%+v, %v) = %+v, %v", m, vars, part, ok)
		}
		for _, x := range impl.SolveAll(m, 20) {
			var values []int
			for _, v := range vars {
				values = append(values, x[v])
			}
			if !impl.IsSolution(part, values) {
				t.Fatalf("SubModel(%+v, %v) = %+v does not have the solution %v, but the model has %v", m, vars, part, values, x)
			}
		}
		checkSubModel(t, m, vars, partOf(m, vars))
		kept[len(vars) < len(m.Domains) && len(part.Constraints) > 0]++
	}
	if kept[true] < 100 || kept[false] < 100 {
		t.Errorf("the models were not balanced: %v", kept)
	}
}

func TestSubModels(t *testing.T) {
	m := impl.Model{Domains: []int{1, 2, 4, 8}, Constraints: []impl.Constraint{
		{Kind: impl.Linear, Vars: []int{3, 1}, Args: []int{2, -1}, Bound: 7},
		{Kind: impl.Regular, Vars: []int{2, 3, 0}, Args: []int{0}, Rows: [][]int{{0, -1, 0, -1, 0, 0}}},
		table([]int{3}, []int{3}, []int{0}),
		{Kind: impl.Element, Vars: []int{1, 2}, Args: []int{3, 2}},
		{Kind: impl.Cumulative, Vars: []int{3, 1}, Args: []int{1, 2, 3, 4}, Bound: 5},
	}}
	checkSubModel(t, m, []int{0, 1, 2, 3}, m)
	linear, unary, sum := cloneConstraint(m.Constraints[0]), cloneConstraint(m.Constraints[2]), cloneConstraint(m.Constraints[4])
	linear.Vars, unary.Vars, sum.Vars = []int{1, 0}, []int{1}, []int{1, 0}
	checkSubModel(t, m, []int{1, 3}, impl.Model{Domains: []int{2, 8}, Constraints: []impl.Constraint{linear, unary, sum}})
	unary.Vars = []int{0}
	checkSubModel(t, m, []int{3}, impl.Model{Domains: []int{8}, Constraints: []impl.Constraint{unary}})
	checkSubModel(t, m, []int{0}, impl.Model{Domains: []int{1}})
	regular, unary := cloneConstraint(m.Constraints[1]), cloneConstraint(unary)
	regular.Vars, unary.Vars = []int{1, 2, 0}, []int{2}
	checkSubModel(t, m, []int{0, 2, 3}, impl.Model{Domains: []int{1, 4, 8}, Constraints: []impl.Constraint{regular, unary}})
	element := cloneConstraint(m.Constraints[3])
	element.Vars = []int{1, 2}
	checkSubModel(t, m, []int{0, 1, 2}, impl.Model{Domains: []int{1, 2, 4}, Constraints: []impl.Constraint{element}})
	element.Vars = []int{0, 1}
	checkSubModel(t, m, []int{1, 2}, impl.Model{Domains: []int{2, 4}, Constraints: []impl.Constraint{element}})
	// A constraint that occurs several times, and empty domains.
	m = edges(3, [2]int{2, 1}, [2]int{2, 1}, [2]int{0, 1})
	m.Domains = []int{63, 0, 5}
	checkSubModel(t, m, []int{1, 2}, impl.Model{Domains: []int{0, 5}, Constraints: edges(2, [2]int{1, 0}, [2]int{1, 0}).Constraints})
	checkSubModel(t, m, []int{0, 2}, impl.Model{Domains: []int{63, 5}})
	checkSubModel(t, full(0, 0, 0, 0), []int{0, 3}, full(0, 0))
	// The empty set of variables.
	checkNoSubModel(t, m, nil)
	checkNoSubModel(t, m, []int{})
}

func TestPromise115SeparationIsSymmetricAndAgreesWithComponents(t *testing.T) {
	s := newSource(224)
	seen := map[bool]int{}
	all := graphs()
	for i := range 1500 {
		m := s.sparse()
		if i%3 > 0 {
			m = all[s.IntN(len(all))]
		}
		n := len(m.Domains)
		vars, u, v := s.variableSet(n), s.IntN(n), s.IntN(n)
		want := impl.IsSeparator(m, vars, u, v)
		checkSeparator(t, m, vars, v, u, want)
		if want && slices.Contains(impl.Neighbours(m, u), v) {
			t.Fatalf("IsSeparator(%+v, %v, %d, %d), but they are neighbours", m, vars, u, v)
		}
		entries := impl.Components(m)
		checkSeparator(t, m, nil, u, v, entries[u] != entries[v])
		checkSeparator(t, m, []int{}, u, v, entries[u] != entries[v])
		checkSeparator(t, m, vars, u, v, separates(m, vars, u, v))
		seen[want && entries[u] == entries[v]]++
	}
	if seen[true] < 20 {
		t.Errorf("the models were not balanced: %v", seen)
	}
}

func TestSeparatorsOfAllGraphs(t *testing.T) {
	for _, m := range graphs() {
		for set := range 16 {
			vars := valuesOf(set)
			for u := range 4 {
				for v := range 4 {
					checkSeparator(t, m, vars, u, v, separates(m, vars, u, v))
				}
			}
		}
	}
}

func TestSeparators(t *testing.T) {
	path := edges(4, [2]int{0, 1}, [2]int{1, 2}, [2]int{2, 3})
	checkSeparator(t, path, []int{1}, 0, 2, true)
	checkSeparator(t, path, []int{1}, 0, 3, true)
	checkSeparator(t, path, []int{2}, 3, 0, true)
	checkSeparator(t, path, []int{1, 2}, 0, 3, true)
	checkSeparator(t, path, []int{3}, 0, 2, false)
	checkSeparator(t, path, nil, 0, 3, false)
	checkSeparator(t, path, []int{2}, 0, 1, false)
	checkSeparator(t, path, []int{2, 3}, 0, 1, false)
	cycle := edges(4, [2]int{0, 1}, [2]int{1, 2}, [2]int{2, 3}, [2]int{3, 0})
	checkSeparator(t, cycle, []int{1}, 0, 2, false)
	checkSeparator(t, cycle, []int{3}, 0, 2, false)
	checkSeparator(t, cycle, []int{1, 3}, 0, 2, true)
	checkSeparator(t, cycle, []int{0, 2}, 3, 1, true)
	// Neither variable may be in the set.
	checkSeparator(t, path, []int{0, 1}, 0, 2, false)
	checkSeparator(t, path, []int{1, 2}, 0, 2, false)
	checkSeparator(t, edges(4), []int{3}, 0, 3, false)
	checkSeparator(t, edges(4), []int{0}, 0, 3, false)
	checkSeparator(t, edges(4), []int{1, 2}, 0, 3, true)
	// Nothing separates a variable from itself, whether or not it is in the set.
	for v := range 4 {
		checkSeparator(t, edges(4), nil, v, v, false)
		checkSeparator(t, path, []int{v}, v, v, false)
		checkSeparator(t, path, others(4, []int{v}), v, v, false)
		checkSeparator(t, path, []int{0, 1, 2, 3}, v, v, false)
	}
	checkSeparator(t, edges(1), nil, 0, 0, false)
	checkSeparator(t, edges(1), []int{0}, 0, 0, false)
	// Empty domains and constraints with one variable change nothing.
	checkSeparator(t, full(0, 0), nil, 0, 1, true)
	checkSeparator(t, impl.Model{Domains: []int{0, 0}, Constraints: edges(2, [2]int{1, 0}).Constraints}, nil, 0, 1, false)
}

func TestPromise116BestOrderHasTheSmallestWidth(t *testing.T) {
	s := newSource(225)
	widths := map[int]int{}
	for range 300 {
		m := s.sparse()
		best, width := impl.BestOrder(m)
		checkWidth(t, m, best, width)
		widths[width]++
		hasNeighbours := false
		for v := range m.Domains {
			hasNeighbours = hasNeighbours || len(impl.Neighbours(m, v)) > 0
		}
		if (width > 0) != hasNeighbours {
			t.Fatalf("BestOrder(%+v) = %v, %d", m, best, width)
		}
		order := s.Perm(len(m.Domains))
		if got := impl.EliminationWidth(m, order); got < width {
			t.Fatalf("EliminationWidth(%+v, %v) = %d, but BestOrder has %d", m, order, got, width)
		}
		checkWidth(t, m, order, widthOf(m, order))
	}
	for width := range 4 {
		if widths[width] < 10 {
			t.Errorf("the models were not balanced: %v", widths)
		}
	}
}

func TestPromise117RemovingAConstraintDoesNotIncreaseTheWidth(t *testing.T) {
	s := newSource(226)
	smaller := 0
	for range 400 {
		m := s.sparse()
		order, width := impl.BestOrder(m)
		if len(order) != len(m.Domains) || len(others(len(order), order)) > 0 {
			t.Fatalf("BestOrder(%+v) = %v", m, order)
		}
		for i := range m.Constraints {
			less, _ := impl.WithoutConstraint(m, i)
			_, got := impl.BestOrder(less)
			if got > width {
				t.Fatalf("BestOrder(%+v) has the width %d, but without constraint %d it is %d", m, width, i, got)
			}
			if got < width {
				smaller++
			}
		}
	}
	if smaller < 50 {
		t.Errorf("only %d constraints were needed", smaller)
	}
}

func TestOrdersOfAllGraphs(t *testing.T) {
	ties := 0
	for _, m := range graphs() {
		for _, order := range ordersOf(4) {
			checkWidth(t, m, order, widthOf(m, order))
		}
		want, equal := bestOrderOf(m)
		checkBestOrder(t, m, want, widthOf(m, want))
		if equal < 24 && !slices.IsSorted(want) {
			ties++
		}
	}
	if ties < 10 {
		t.Errorf("only for %d models is the best order another one than the first", ties)
	}
}

func TestOrders(t *testing.T) {
	path := edges(3, [2]int{0, 1}, [2]int{1, 2})
	checkWidth(t, path, []int{0, 1, 2}, 1)
	checkWidth(t, path, []int{1, 0, 2}, 2)
	checkBestOrder(t, path, []int{0, 1, 2}, 1)
	// The first variable is in the middle of a star, so that it must not be eliminated first.
	star := edges(4, [2]int{0, 1}, [2]int{2, 0}, [2]int{0, 3})
	checkWidth(t, star, []int{0, 1, 2, 3}, 3)
	checkWidth(t, star, []int{1, 0, 2, 3}, 2)
	checkWidth(t, star, []int{1, 2, 0, 3}, 1)
	checkBestOrder(t, star, []int{1, 2, 0, 3}, 1)
	// To eliminate a variable of a cycle makes its neighbours neighbours.
	cycle := edges(4, [2]int{0, 1}, [2]int{1, 2}, [2]int{2, 3}, [2]int{3, 0})
	checkBestOrder(t, cycle, []int{0, 1, 2, 3}, 2)
	checkWidth(t, edges(4, [2]int{1, 0}, [2]int{1, 2}, [2]int{1, 3}), []int{0, 1, 2, 3}, 2)
	checkWidth(t, edges(4, [2]int{0, 1}, [2]int{0, 2}, [2]int{1, 3}, [2]int{2, 3}), []int{0, 3, 1, 2}, 2)
	// One constraint over all variables, and several that repeat an edge.
	checkBestOrder(t, impl.Model{Domains: []int{0, 1, 3, 7}, Constraints: []impl.Constraint{{Kind: impl.AllDifferent, Vars: []int{2, 0, 3, 1}}}}, []int{0, 1, 2, 3}, 3)
	checkBestOrder(t, edges(2, [2]int{0, 1}, [2]int{1, 0}, [2]int{0, 1}), []int{0, 1}, 1)
	checkWidth(t, edges(2, [2]int{0, 1}, [2]int{1, 0}, [2]int{0, 1}), []int{1, 0}, 1)
	// No neighbours at all.
	checkBestOrder(t, full(7, 7, 7, 0), []int{0, 1, 2, 3}, 0)
	checkWidth(t, full(7, 7, 7, 0), []int{3, 1, 2, 0}, 0)
	checkBestOrder(t, edges(1), []int{0}, 0)
	checkWidth(t, edges(1), []int{0}, 0)
}

func TestDecompositionRejectsInvalidModels(t *testing.T) {
	for _, m := range invalidModels() {
		n := len(m.Domains)
		for v := -1; v <= n; v++ {
			checkNeighbours(t, m, v)
			checkSeparator(t, m, nil, 0, v, false)
			checkSeparator(t, m, nil, v, 0, false)
		}
		checkComponents(t, m)
		checkNoSubModel(t, m, nil)
		checkNoSubModel(t, m, []int{0})
		checkNoSubModel(t, m, others(n, nil))
		checkSeparator(t, m, []int{1}, 0, 2, false)
		checkWidth(t, m, nil, -1)
		checkWidth(t, m, others(n, nil), -1)
		checkBestOrder(t, m, nil, -1)
	}
}

func TestDecompositionRejectsInvalidVariables(t *testing.T) {
	for _, m := range append(unsolvable(), edges(1), edges(2), edges(3, [2]int{0, 1}), full(63, 63, 63, 63)) {
		n := len(m.Domains)
		for _, v := range invalidVariables(n) {
			checkNeighbours(t, m, v)
			for _, u := range []int{0, n - 1, v} {
				checkSeparator(t, m, nil, u, v, false)
				checkSeparator(t, m, nil, v, u, false)
			}
		}
		for _, vars := range invalidVariableSets(n) {
			checkNoSubModel(t, m, vars)
			for u := range n {
				checkSeparator(t, m, vars, u, n-1, false)
				checkSeparator(t, m, vars, 0, u, false)
			}
		}
		for _, order := range invalidOrders(n) {
			checkWidth(t, m, order, -1)
		}
	}
}

// decomposedLists calls all functions of the chapter that return lists.
func decomposedLists(m impl.Model) [][]int {
	order, _ := impl.BestOrder(m)
	list := lists(impl.Components(m), order)
	for v := range m.Domains {
		list = append(list, impl.Neighbours(m, v))
	}
	return list
}

func TestDecompositionLeavesItsArgumentsAlone(t *testing.T) {
	s := newSource(227)
	for i := range 300 {
		m := roomy(s.sparse())
		if i%2 == 0 {
			m = roomy(s.model())
		}
		vars, order := s.variableSet(len(m.Domains)), s.Perm(len(m.Domains))
		before, varsBefore, orderBefore := snapshot(m), slices.Clone(vars), slices.Clone(order)
		want := spoil(t, decomposedLists(m))
		impl.IsSeparator(m, vars, 0, len(m.Domains)-1)
		impl.EliminationWidth(m, order)
		part, ok := impl.SubModel(m, vars)
		kept := cloneModel(part)
		if ok != (len(vars) > 0) || overwrite(part) {
			t.Fatal("slices of the submodel share memory")
		}
		if !sameModel(before, snapshot(m)) || !slices.Equal(vars, varsBefore) || !slices.Equal(order, orderBefore) {
			t.Fatal("an argument was changed, or shares memory with a result")
		}
		if again, _ := impl.SubModel(m, vars); !sameLists(decomposedLists(m), want) || !sameModel(again, kept) {
			t.Fatal("a result is kept from call to call")
		}
	}
}

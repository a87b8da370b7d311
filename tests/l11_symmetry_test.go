package tests

import (
	"slices"
	"testing"

	"loop.example/constraintsolver/impl"
)

// withVariablesExchanged returns x with the values of variables i and j exchanged.
func withVariablesExchanged(x []int, i int, j int) []int {
	y := slices.Clone(x)
	y[i], y[j] = x[j], x[i]
	return y
}

// withValuesExchanged returns x with the values u and v exchanged in all variables.
func withValuesExchanged(x []int, u int, v int) []int {
	y := slices.Clone(x)
	for i, a := range x {
		if a == u {
			y[i] = v
		}
		if a == v {
			y[i] = u
		}
	}
	return y
}

// allHold reports whether every solution of m remains one, given what it becomes.
func allHold(m impl.Model, exchanged func(x []int) []int) bool {
	return !slices.ContainsFunc(solutionsOf(m), func(x []int) bool {
		y := exchanged(x)
		return !inDomains(m, y) || len(brokenBy(m, y)) > 0
	})
}

// areExchangeable is IsVariableSymmetry by its definition, for valid arguments.
func areExchangeable(m impl.Model, i int, j int) bool {
	return allHold(m, func(x []int) []int { return withVariablesExchanged(x, i, j) })
}

// areExchangeableValues is IsValueSymmetry by its definition, for valid arguments.
func areExchangeableValues(m impl.Model, u int, v int) bool {
	return allHold(m, func(x []int) []int { return withValuesExchanged(x, u, v) })
}

// orbitsOf is VariableOrbits by its definition.
func orbitsOf(m impl.Model) []int {
	var orbits []int
	for i := range m.Domains {
		j := 0
		for !areExchangeable(m, j, i) {
			j++
		}
		orbits = append(orbits, j)
	}
	return orbits
}

// canonicalOf is CanonicalSolutions by its definition, given the orbits.
func canonicalOf(m impl.Model, orbits []int) [][]int {
	return slices.DeleteFunc(solutionsOf(m), func(x []int) bool {
		for i := range x {
			for j := i + 1; j < len(x); j++ {
				if orbits[i] == orbits[j] && x[i] > x[j] {
					return true
				}
			}
		}
		return false
	})
}

// sortedWithin returns x with its values sorted within each orbit.
func sortedWithin(x []int, orbits []int) []int {
	y := slices.Clone(x)
	for representative := range x {
		var values []int
		for i, orbit := range orbits {
			if orbit == representative {
				values = append(values, x[i])
			}
		}
		slices.Sort(values)
		for i, orbit := range orbits {
			if orbit == representative {
				y[i], values = values[0], values[1:]
			}
		}
	}
	return y
}

// alike returns models in which several variables, and several values, often can be exchanged.
func (s source) alike() impl.Model {
	if s.IntN(5) == 0 {
		return s.someModel()
	}
	n := s.between(1, 4)
	few := s.list(2, 1, 63)
	m := impl.Model{Domains: make([]int, n)}
	for i := range m.Domains {
		m.Domains[i] = few[s.IntN(4)/3]
	}
	for range s.between(0, 2) {
		m.Constraints = append(m.Constraints, s.evenHanded(n))
	}
	return m
}

// evenHanded returns a constraint for n variables that treats all its variables alike.
func (s source) evenHanded(n int) impl.Constraint {
	k := s.between(1, n)
	c := impl.Constraint{Kind: impl.AllDifferent, Vars: s.Perm(n)[:k]}
	switch s.IntN(4) {
	case 0:
		c.Kind, c.Args, c.Bound = impl.Linear, slices.Repeat(s.list(1, -2, 2), k), s.between(-9, 9)
	case 1:
		c.Kind, c.Args, c.Bound = impl.Count, s.list(1, 0, 5), s.between(0, k)
	case 2:
		c.Kind, c.Args, c.Bound = impl.Cumulative, slices.Repeat([]int{s.between(1, 3)}, 2*k), s.between(2, 9)
	}
	return c
}

// checkVariables reports variables that IsVariableSymmetry judges wrongly, in either order.
func checkVariables(t *testing.T, m impl.Model, i int, j int, want bool) {
	t.Helper()
	if impl.IsVariableSymmetry(m, i, j) != want {
		t.Errorf("IsVariableSymmetry(%+v, %d, %d) = %v", m, i, j, !want)
	}
	if impl.IsVariableSymmetry(m, j, i) != want {
		t.Errorf("IsVariableSymmetry(%+v, %d, %d) = %v", m, j, i, !want)
	}
}

// checkValues reports values that IsValueSymmetry judges wrongly, in either order.
func checkValues(t *testing.T, m impl.Model, u int, v int, want bool) {
	t.Helper()
	if impl.IsValueSymmetry(m, u, v) != want {
		t.Errorf("IsValueSymmetry(%+v, %d, %d) = %v", m, u, v, !want)
	}
	if impl.IsValueSymmetry(m, v, u) != want {
		t.Errorf("IsValueSymmetry(%+v, %d, %d) = %v", m, v, u, !want)
	}
}

// checkOrbits reports a model whose VariableOrbits are not the wanted ones.
func checkOrbits(t *testing.T, m impl.Model, want ...int) {
	t.Helper()
	if got := impl.VariableOrbits(m); !slices.Equal(got, want) {
		t.Errorf("VariableOrbits(%+v) = %v, want %v", m, got, want)
	}
}

// checkCanonical reports a model whose CanonicalSolutions are not the wanted ones.
func checkCanonical(t *testing.T, m impl.Model, want ...[]int) {
	t.Helper()
	if got := impl.CanonicalSolutions(m); !sameLists(got, want) {
		t.Errorf("CanonicalSolutions(%+v) = %v, want %v", m, got, want)
	}
}

func TestPromise41ExchangingSymmetricVariablesPreservesSolutions(t *testing.T) {
	s := newSource(70)
	seen := map[bool]int{}
	for range 300 {
		m := s.alike()
		list := solutionsOf(m)
		for i := range m.Domains {
			checkVariables(t, m, i, i, true)
			for j := range i {
				want := areExchangeable(m, i, j)
				checkVariables(t, m, i, j, want)
				if len(list) > 0 {
					seen[want]++
				}
				if !want {
					continue
				}
				for _, x := range list {
					if !impl.IsSolution(m, withVariablesExchanged(x, i, j)) {
						t.Fatalf("variables %d and %d of %+v cannot be exchanged in %v", i, j, m, x)
					}
				}
			}
		}
	}
	if seen[true] < 100 || seen[false] < 100 {
		t.Errorf("the models were not balanced: %v", seen)
	}
}

func TestPromise42ExchangingSymmetricValuesPreservesSolutions(t *testing.T) {
	s := newSource(71)
	seen := map[bool]int{}
	for range 200 {
		m := s.alike()
		list, backbone := solutionsOf(m), impl.Backbone(m)
		for u := range 6 {
			checkValues(t, m, u, u, true)
			for v := range u {
				want := areExchangeableValues(m, u, v)
				checkValues(t, m, u, v, want)
				if len(list) > 0 && slices.ContainsFunc(backbone, func(d int) bool { return d>>u&1 == 1 || d>>v&1 == 1 }) {
					seen[want]++
				}
				if !want {
					continue
				}
				for _, x := range list {
					if !impl.IsSolution(m, withValuesExchanged(x, u, v)) {
						t.Fatalf("values %d and %d of %+v cannot be exchanged in %v", u, v, m, x)
					}
				}
				for _, d := range backbone {
					if d>>u&1 != d>>v&1 {
						t.Fatalf("values %d and %d of %+v can be exchanged, but the backbone is %v", u, v, m, backbone)
					}
				}
			}
		}
	}
	if seen[true] < 100 || seen[false] < 100 {
		t.Errorf("the models were not balanced: %v", seen)
	}
}

func TestPromise43OrbitsAreClassesOfExchangeableVariables(t *testing.T) {
	s := newSource(72)
	seen := map[[4]int]int{}
	for range 400 {
		m := s.alike()
		orbits := impl.VariableOrbits(m)
		if len(orbits) != len(m.Domains) {
			t.Fatalf("VariableOrbits(%+v) = %v", m, orbits)
		}
		for i, j := range orbits {
			if j > i || orbits[j] != j {
				t.Fatalf("VariableOrbits(%+v) = %v", m, orbits)
			}
			checkVariables(t, m, i, j, true)
			for k := range i {
				checkVariables(t, m, i, k, orbits[k] == j)
			}
		}
		checkOrbits(t, m, orbitsOf(m)...)
		if len(orbits) == 4 {
			seen[[4]int(orbits)]++
		}
	}
	if len(seen) < 8 {
		t.Errorf("the orbits were not varied: %v", seen)
	}
}

func TestPromise44CanonicalSolutionsRepresentAllSolutions(t *testing.T) {
	s := newSource(73)
	seen := map[bool]int{}
	for range 300 {
		m := s.alike()
		list, orbits := solutionsOf(m), impl.VariableOrbits(m)
		canonical := impl.CanonicalSolutions(m)
		if (len(canonical) > 0) != (len(list) > 0) {
			t.Fatalf("CanonicalSolutions(%+v) = %v", m, canonical)
		}
		for _, x := range canonical {
			if !impl.IsSolution(m, x) {
				t.Fatalf("%v is no solution of %+v", x, m)
			}
		}
		for _, x := range list {
			y := sortedWithin(x, orbits)
			if _, found := slices.BinarySearchFunc(canonical, y, slices.Compare[[]int]); !found {
				t.Fatalf("%v is a solution of %+v, but %v is not canonical", x, m, y)
			}
		}
		checkCanonical(t, m, canonicalOf(m, orbitsOf(m))...)
		if len(list) > 0 {
			seen[len(canonical) < len(list)]++
		}
	}
	if seen[true] < 80 || seen[false] < 50 {
		t.Errorf("the models were not balanced: %v", seen)
	}
}

func TestModelsWithoutSolutionsHaveAllSymmetries(t *testing.T) {
	for n := 1; n <= 4; n++ {
		full := slices.Repeat([]int{63}, n)
		full[0] = 1
		for _, m := range []impl.Model{
			{Domains: make([]int, n)},
			{Domains: append(slices.Clone(full[1:]), 0)},
			{Domains: full, Constraints: []impl.Constraint{never()}},
			{Domains: full, Constraints: []impl.Constraint{fixing(0, 0), fixing(n-1, 2), fixing(n-1, 3)}},
		} {
			for i := range n {
				for j := range n {
					checkVariables(t, m, i, j, true)
				}
				checkVariables(t, m, i, n, false)
				checkVariables(t, m, i, -1, false)
			}
			for u := range 6 {
				for v := range 6 {
					checkValues(t, m, u, v, true)
				}
				checkValues(t, m, u, 6, false)
				checkValues(t, m, u, -1, false)
			}
			checkOrbits(t, m, make([]int, n)...)
			checkCanonical(t, m)
		}
	}
	// Search finds only at the end that there is no solution.
	checkOrbits(t, pairwise(4, 7), 0, 0, 0, 0)
	checkCanonical(t, pairwise(4, 7))
}

func TestSymmetriesOfModelsWithoutConstraints(t *testing.T) {
	m := impl.Model{Domains: []int{5, 3, 5, 3}}
	checkOrbits(t, m, 0, 1, 0, 1)
	checkVariables(t, m, 0, 2, true)
	checkVariables(t, m, 0, 1, false)
	checkCanonical(t, m, []int{0, 0, 0, 0}, []int{0, 0, 0, 1}, []int{0, 0, 2, 0}, []int{0, 0, 2, 1}, []int{0, 1, 0, 1}, []int{0, 1, 2, 1},
		[]int{2, 0, 2, 0}, []int{2, 0, 2, 1}, []int{2, 1, 2, 1})
	// Two values can be exchanged only if every domain has both or neither of them.
	checkValues(t, m, 0, 1, false)
	checkValues(t, m, 0, 2, false)
	checkValues(t, m, 1, 2, false)
	checkValues(t, m, 3, 4, true)
	checkValues(t, m, 0, 5, false)
	checkOrbits(t, impl.Model{Domains: []int{1, 2, 2, 1}}, 0, 1, 1, 0)
	checkOrbits(t, impl.Model{Domains: []int{1, 2, 2, 4}}, 0, 1, 1, 3)
	checkOrbits(t, impl.Model{Domains: []int{1, 2, 4, 8}}, 0, 1, 2, 3)
	checkOrbits(t, impl.Model{Domains: []int{32}}, 0)
	checkCanonical(t, impl.Model{Domains: []int{40}}, []int{3}, []int{5})
	checkCanonical(t, impl.Model{Domains: []int{2, 1}}, []int{1, 0})
	checkValues(t, impl.Model{Domains: []int{40}}, 3, 5, true)
	checkValues(t, impl.Model{Domains: []int{40}}, 3, 4, false)
}

func TestCanonicalSolutionsAreNotLimited(t *testing.T) {
	// Multisets of four values, and all assignments if no variables can be exchanged.
	full := impl.Model{Domains: []int{63, 63, 63, 63}}
	checkOrbits(t, full, 0, 0, 0, 0)
	if got := impl.CanonicalSolutions(full); len(got) != 126 || !sameLists(got, canonicalOf(full, make([]int, 4))) {
		t.Errorf("CanonicalSolutions(%+v) has %d entries", full, len(got))
	}
	for u := range 6 {
		for v := range 6 {
			checkValues(t, full, u, v, true)
		}
	}
	different := impl.Model{Domains: []int{63, 62, 60, 56}}
	checkOrbits(t, different, 0, 1, 2, 3)
	if got := impl.CanonicalSolutions(different); !sameLists(got, solutionsOf(different)) {
		t.Errorf("CanonicalSolutions(%+v) has %d entries", different, len(got))
	}
}

func TestSymmetriesOfConstraints(t *testing.T) {
	// What counts is the solutions, not how the model is written down.
	hidden := impl.Model{Domains: []int{63, 7, 56}, Constraints: []impl.Constraint{
		{Kind: impl.Linear, Vars: []int{0}, Args: []int{1}, Bound: 2},
		{Kind: impl.Linear, Vars: []int{1, 0}, Args: []int{-3, -3}, Bound: -3},
	}}
	checkOrbits(t, hidden, 0, 0, 2)
	checkValues(t, hidden, 1, 2, true)
	checkValues(t, hidden, 0, 1, false)
	checkValues(t, hidden, 3, 5, true)
	// One variable is the sum of the others.
	sum := impl.Model{Domains: []int{63, 63, 63}, Constraints: []impl.Constraint{
		{Kind: impl.Linear, Vars: []int{0, 1, 2}, Args: []int{1, -1, 1}},
		{Kind: impl.Linear, Vars: []int{0, 1, 2}, Args: []int{-1, 1, -1}},
	}}
	checkOrbits(t, sum, 0, 1, 0)
	checkVariables(t, sum, 0, 1, false)
	checkVariables(t, sum, 2, 1, false)
	// Some solutions remain solutions, but not all.
	less := impl.Model{Domains: []int{3, 3}, Constraints: []impl.Constraint{{Kind: impl.Linear, Vars: []int{0, 1}, Args: []int{1, -1}}}}
	checkVariables(t, less, 0, 1, false)
	checkValues(t, less, 0, 1, false)
	checkCanonical(t, less, []int{0, 0}, []int{0, 1}, []int{1, 1})
	checkCanonical(t, impl.Model{Domains: []int{3, 3}}, []int{0, 0}, []int{0, 1}, []int{1, 1})
	// Exchanging two positions of a cycle is not exchanging their successors.
	circle := impl.Model{Domains: []int{7, 7, 7}, Constraints: []impl.Constraint{{Kind: impl.Circuit, Vars: []int{0, 1, 2}}}}
	checkOrbits(t, circle, 0, 1, 2)
	checkValues(t, circle, 0, 1, false)
	checkCanonical(t, circle, []int{1, 2, 0}, []int{2, 0, 1})
	checkCanonical(t, pairwise(4, 15), []int{0, 1, 2, 3})
	// Both values of a pair are used, but each by its own variable.
	crossed := impl.Model{Domains: []int{3, 3}, Constraints: []impl.Constraint{{Kind: impl.Table, Vars: []int{0, 1}, Rows: [][]int{{0, 1}, {1, 0}}}}}
	checkValues(t, crossed, 0, 1, true)
	checkOrbits(t, crossed, 0, 0)
	crossed.Constraints[0].Rows = [][]int{{0, 1}}
	checkValues(t, crossed, 0, 1, false)
	checkOrbits(t, crossed, 0, 1)
}

func TestSymmetriesRejectNumbersThatAreNoVariablesOrValues(t *testing.T) {
	for n := 1; n <= 4; n++ {
		for _, domain := range []int{0, 63} {
			m := impl.Model{Domains: slices.Repeat([]int{domain}, n)}
			for _, wrong := range []int{smallestInt, -64, -1, n, n + 1, 6, 64, 1 << 32, largestInt} {
				checkVariables(t, m, wrong, wrong, false)
				for i := range n {
					checkVariables(t, m, i, wrong, false)
				}
			}
			for _, wrong := range []int{smallestInt, -64, -1, 6, 7, 64, 1 << 32, largestInt} {
				checkValues(t, m, wrong, wrong, false)
				for v := range 6 {
					checkValues(t, m, v, wrong, false)
				}
			}
		}
	}
}

func TestSymmetriesRejectInvalidModels(t *testing.T) {
	models := invalidModels()
	for _, c := range invalidConstraints() {
		models = append(models, impl.Model{Domains: []int{0, 63}, Constraints: []impl.Constraint{c}})
	}
	for _, d := range invalidDomains() {
		models = append(models, impl.Model{Domains: []int{0, d}})
	}
	for _, m := range models {
		for _, i := range []int{-1, 0, 1} {
			checkVariables(t, m, 0, i, false)
			checkValues(t, m, 0, i, false)
		}
		checkOrbits(t, m)
		checkCanonical(t, m)
	}
}

// symmetryLists calls all functions of symmetries that return lists.
func symmetryLists(m impl.Model) [][]int {
	return append(lists(impl.VariableOrbits(m)), impl.CanonicalSolutions(m)...)
}

func TestSymmetriesLeaveTheirArgumentsAlone(t *testing.T) {
	s := newSource(74)
	for range 200 {
		m := roomy(s.alike())
		before := snapshot(m)
		impl.IsVariableSymmetry(m, 0, len(m.Domains)-1)
		impl.IsValueSymmetry(m, 0, 1)
		want := spoil(t, symmetryLists(m))
		if !sameModel(before, snapshot(m)) {
			t.Fatal("an argument was changed, or shares memory with a result")
		}
		if !sameLists(symmetryLists(m), want) {
			t.Fatal("a result is kept from call to call")
		}
	}
}

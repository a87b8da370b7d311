package tests

import (
	"cmp"
	"math/bits"
	"slices"
	"testing"

	"loop.example/constraintsolver/impl"
)

// setOf returns the set of the indices as a bit mask.
func setOf(indices []int) int {
	set := 0
	for _, i := range indices {
		set |= 1 << i
	}
	return set
}

// violatedSets lists the sets of constraints, as bit masks, that the assignments in the domains of m violate.
func violatedSets(m impl.Model) []int {
	var list []int
	for _, x := range allAssignments(len(m.Domains)) {
		if inDomains(m, x) {
			list = append(list, setOf(brokenBy(m, x)))
		}
	}
	slices.Sort(list)
	return slices.Compact(list)
}

// isInfeasible reports whether every assignment violates a constraint of the set.
func isInfeasible(violated []int, set int) bool {
	return !slices.ContainsFunc(violated, func(broken int) bool { return broken&set == 0 })
}

// minimalSets lists the wanted sets of n constraints without a wanted proper subset, in the order of the document.
func minimalSets(n int, isWanted func(set int) bool) [][]int {
	var list [][]int
	for set := range 1 << n {
		minimal := isWanted(set)
		for smaller := range set {
			minimal = minimal && (smaller&^set != 0 || !isWanted(smaller))
		}
		if minimal {
			list = append(list, indicesOf(set))
		}
	}
	slices.SortFunc(list, func(a []int, b []int) int {
		return cmp.Or(cmp.Compare(len(a), len(b)), slices.Compare(a, b))
	})
	return list
}

// indicesOf returns the indices of a set in ascending order.
func indicesOf(set int) []int {
	var list []int
	for i := range bits.Len(uint(set)) {
		if set>>i&1 == 1 {
			list = append(list, i)
		}
	}
	return list
}

// conflictsOf is AllConflicts by its definition.
func conflictsOf(m impl.Model) [][]int {
	violated := violatedSets(m)
	return minimalSets(len(m.Constraints), func(set int) bool { return isInfeasible(violated, set) })
}

// relaxationsOf is Relaxations by its definition.
func relaxationsOf(m impl.Model) [][]int {
	violated, all := violatedSets(m), 1<<len(m.Constraints)-1
	return minimalSets(len(m.Constraints), func(set int) bool { return !isInfeasible(violated, all&^set) })
}

// conflictOf is MinimalConflict by its definition.
func conflictOf(m impl.Model) ([]int, bool) {
	violated, set := violatedSets(m), 1<<len(m.Constraints)-1
	if !isInfeasible(violated, set) {
		return nil, false
	}
	for i := range m.Constraints {
		if isInfeasible(violated, set&^(1<<i)) {
			set &^= 1 << i
		}
	}
	return indicesOf(set), true
}

// sameLists compares lists of lists; nil and empty lists are equal.
func sameLists(a [][]int, b [][]int) bool {
	return slices.EqualFunc(a, b, slices.Equal[[]int])
}

// lists returns the list of the given lists.
func lists(list ...[]int) [][]int {
	return list
}

// only returns the model with the domains of m and the given constraints of it.
func only(m impl.Model, indices []int) impl.Model {
	smaller := impl.Model{Domains: m.Domains}
	for _, i := range indices {
		smaller.Constraints = append(smaller.Constraints, m.Constraints[i])
	}
	return smaller
}

// leavingOut returns the model with the domains of m and all but the given constraints of it.
func leavingOut(m impl.Model, indices []int) impl.Model {
	return only(m, indicesOf((1<<len(m.Constraints)-1)&^setOf(indices)))
}

// quarrel returns models of all sorts, most of them without solutions.
func (s source) quarrel() impl.Model {
	switch s.IntN(5) {
	case 0:
		return s.provable()
	case 1:
		return s.model()
	case 2:
		return s.contradictions()
	}
	return s.crowd()
}

// contradictions returns models with constraints any two of which contradict each other if they fix a variable to
// different values.
func (s source) contradictions() impl.Model {
	n := s.between(1, 3)
	m := impl.Model{Domains: s.list(n, 7, 63)}
	for range s.between(3, 6) {
		c := fixing(s.IntN(n), s.between(0, 2))
		if s.IntN(3) == 0 {
			c = s.constraint(n)
		}
		m.Constraints = append(m.Constraints, c)
	}
	return m
}

// crowd returns models with few values, in which weak constraints of two variables conflict only together.
func (s source) crowd() impl.Model {
	n := s.between(2, 4)
	m := impl.Model{Domains: slices.Repeat([]int{7 >> s.IntN(2)}, n)}
	for range s.between(4, 6) {
		c := impl.Constraint{Kind: impl.NotEqual, Vars: s.Perm(n)[:2], Args: []int{0}}
		switch s.IntN(4) {
		case 0:
			c.Kind, c.Args, c.Bound = impl.Linear, []int{1, -1}, -s.IntN(2)
		case 1:
			c.Kind, c.Args = impl.Count, s.list(1, 0, 2)
		}
		m.Constraints = append(m.Constraints, c)
	}
	return m
}

// checkConflict reports a model whose MinimalConflict is not the wanted one.
func checkConflict(t *testing.T, m impl.Model, want ...int) {
	t.Helper()
	if got, ok := impl.MinimalConflict(m); !ok || !slices.Equal(got, want) {
		t.Errorf("MinimalConflict(%+v) = %v, %v, want %v", m, got, ok, want)
	}
}

// checkNoConflict reports a model for which MinimalConflict succeeds although it should not.
func checkNoConflict(t *testing.T, m impl.Model) {
	t.Helper()
	if got, ok := impl.MinimalConflict(m); ok || len(got) != 0 {
		t.Errorf("MinimalConflict(%+v) = %v, %v", m, got, ok)
	}
}

// checkConflicts reports a model whose AllConflicts are not the wanted ones.
func checkConflicts(t *testing.T, m impl.Model, want [][]int) {
	t.Helper()
	if got := impl.AllConflicts(m); !sameLists(got, want) {
		t.Errorf("AllConflicts(%+v) = %v, want %v", m, got, want)
	}
}

// checkRelaxations reports a model whose Relaxations are not the wanted ones.
func checkRelaxations(t *testing.T, m impl.Model, want [][]int) {
	t.Helper()
	if got := impl.Relaxations(m); !sameLists(got, want) {
		t.Errorf("Relaxations(%+v) = %v, want %v", m, got, want)
	}
}

func TestPromise38MinimalConflictIsInfeasibleAndMinimal(t *testing.T) {
	s := newSource(60)
	sizes := map[int]int{}
	for range 600 {
		m := s.quarrel()
		conflict, ok := impl.MinimalConflict(m)
		if ok != (len(solutionsOf(m)) == 0) {
			t.Fatalf("MinimalConflict(%+v) = %v, %v", m, conflict, ok)
		}
		if !ok {
			checkNoConflict(t, m)
			continue
		}
		sizes[len(conflict)]++
		if len(solutionsOf(only(m, conflict))) > 0 || !slices.Equal(conflict, indicesOf(setOf(conflict))) {
			t.Fatalf("MinimalConflict(%+v) = %v is no conflict", m, conflict)
		}
		for i := range conflict {
			if others := slices.Delete(slices.Clone(conflict), i, i+1); len(solutionsOf(only(m, others))) == 0 {
				t.Fatalf("MinimalConflict(%+v) = %v, but %v is a conflict", m, conflict, others)
			}
		}
	}
	for size := range 4 {
		if sizes[size] < 5 {
			t.Errorf("the conflicts were not varied: %v", sizes)
		}
	}
}

func TestMinimalConflictByItsDefinition(t *testing.T) {
	s := newSource(61)
	several := 0
	for range 800 {
		m := s.quarrel()
		want, ok := conflictOf(m)
		if !ok {
			checkNoConflict(t, m)
			continue
		}
		checkConflict(t, m, want...)
		if len(conflictsOf(m)) > 1 {
			several++
		}
	}
	if several < 200 {
		t.Errorf("only %d models had several conflicts", several)
	}
}

func TestConstraintsAreDroppedInAscendingOrder(t *testing.T) {
	// Of several conflicts the one is left that loses its first constraint last.
	m := impl.Model{Domains: []int{63, 63}}
	for _, c := range []struct{ v, a int }{{0, 1}, {1, 1}, {1, 2}, {0, 2}} {
		m.Constraints = append(m.Constraints, fixing(c.v, c.a))
	}
	checkConflict(t, m, 1, 2)
	slices.Reverse(m.Constraints)
	checkConflict(t, m, 1, 2)
	m.Constraints[0], m.Constraints[2] = m.Constraints[2], m.Constraints[0]
	checkConflict(t, m, 2, 3)
	checkConflict(t, impl.Model{Domains: []int{63}, Constraints: slices.Repeat([]impl.Constraint{never()}, 6)}, 5)
	checkConflict(t, impl.Model{Domains: []int{63}, Constraints: []impl.Constraint{never(), fixing(0, 0), fixing(0, 1), fixing(0, 1)}}, 1, 3)
}

// fixing returns the constraint that variable v has the value a.
func fixing(v int, a int) impl.Constraint {
	return impl.Constraint{Kind: impl.Table, Vars: []int{v}, Rows: [][]int{{a}}}
}

// never returns a constraint that nothing satisfies.
func never() impl.Constraint {
	return impl.Constraint{Kind: impl.Linear, Vars: []int{0}, Args: []int{0}, Bound: -1}
}

// always returns a constraint that everything satisfies.
func always() impl.Constraint {
	return impl.Constraint{Kind: impl.AllDifferent, Vars: []int{0}}
}

func TestPromise39AllConflictsContainsEveryMinimalConflict(t *testing.T) {
	s := newSource(62)
	counts := map[int]int{}
	for range 400 {
		m := s.quarrel()
		all := impl.AllConflicts(m)
		counts[len(all)]++
		if (len(all) == 0) != (len(solutionsOf(m)) > 0) {
			t.Fatalf("AllConflicts(%+v) = %v", m, all)
		}
		for _, set := range all {
			checkConflict(t, only(m, set), indicesOf(1<<len(set)-1)...)
		}
		conflict, ok := impl.MinimalConflict(m)
		isListed := slices.ContainsFunc(all, func(set []int) bool { return slices.Equal(set, conflict) })
		if ok != isListed {
			t.Fatalf("MinimalConflict(%+v) = %v, %v, AllConflicts = %v", m, conflict, ok, all)
		}
		checkConflicts(t, m, conflictsOf(m))
	}
	if counts[0] < 50 || counts[1] < 50 || len(counts) < 6 {
		t.Errorf("the numbers of conflicts were not varied: %v", counts)
	}
}

func TestPromise40RelaxationsHitEveryConflict(t *testing.T) {
	s := newSource(63)
	counts := map[int]int{}
	for range 400 {
		m := s.quarrel()
		all := impl.Relaxations(m)
		counts[len(all)]++
		for _, set := range all {
			if len(solutionsOf(leavingOut(m, set))) == 0 {
				t.Fatalf("Relaxations(%+v) = %v", m, all)
			}
			for i := range set {
				if others := slices.Delete(slices.Clone(set), i, i+1); len(solutionsOf(leavingOut(m, others))) > 0 {
					t.Fatalf("Relaxations(%+v) = %v, but %v is enough", m, all, others)
				}
			}
			for _, conflict := range impl.AllConflicts(m) {
				if setOf(set)&setOf(conflict) == 0 {
					t.Fatalf("Relaxations(%+v) = %v do not hit %v", m, all, conflict)
				}
			}
		}
		checkRelaxations(t, m, relaxationsOf(m))
	}
	if counts[0] < 5 || counts[1] < 50 || len(counts) < 6 {
		t.Errorf("the numbers of relaxations were not varied: %v", counts)
	}
}

// atMostTwo returns six constraints any two of which can be satisfied together, but no three: each pair has an
// assignment of its own, and a constraint is the table of those of its pairs.
func atMostTwo() impl.Model {
	m := impl.Model{Domains: []int{63, 63}}
	for i := range 6 {
		c := impl.Constraint{Kind: impl.Table, Vars: []int{0, 1}}
		for j := range 6 {
			if i != j {
				c.Rows = append(c.Rows, []int{min(i, j), max(i, j)})
			}
		}
		m.Constraints = append(m.Constraints, c)
	}
	return m
}

func TestSetsAreOrderedBySizeThenLexicographically(t *testing.T) {
	var triples, quadruples, pairs, quintuples [][]int
	for i := range 6 {
		for j := i + 1; j < 6; j++ {
			pairs = append(pairs, []int{i, j})
			for k := j + 1; k < 6; k++ {
				triples = append(triples, []int{i, j, k})
				for l := k + 1; l < 6; l++ {
					quadruples = append(quadruples, []int{i, j, k, l})
				}
			}
		}
		quintuples = append(lists(slices.Delete([]int{0, 1, 2, 3, 4, 5}, i, i+1)), quintuples...)
	}
	checkConflicts(t, atMostTwo(), triples)
	checkRelaxations(t, atMostTwo(), quadruples)
	checkConflict(t, atMostTwo(), 3, 4, 5)
	one := impl.Model{Domains: []int{63}}
	for a := range 6 {
		one.Constraints = append(one.Constraints, fixing(0, a))
	}
	checkConflicts(t, one, pairs)
	checkRelaxations(t, one, quintuples)
	// A larger set comes later, also if it precedes lexicographically.
	mixed := impl.Model{Domains: []int{63, 63}, Constraints: []impl.Constraint{
		fixing(0, 0), fixing(1, 0), {Kind: impl.NotEqual, Vars: []int{0, 1}, Args: []int{0}}, fixing(1, 0), fixing(0, 0), never(),
	}}
	checkConflicts(t, mixed, lists([]int{5}, []int{0, 1, 2}, []int{0, 2, 3}, []int{1, 2, 4}, []int{2, 3, 4}))
	checkRelaxations(t, mixed, lists([]int{2, 5}, []int{0, 4, 5}, []int{1, 3, 5}))
	checkConflict(t, mixed, 5)
}

func TestConflictsOfAllConstraints(t *testing.T) {
	// Each constraint excludes one value, and all six together every value.
	m := impl.Model{Domains: []int{63}}
	var singles [][]int
	for i := range 6 {
		c := impl.Constraint{Kind: impl.Count, Vars: []int{0}, Args: []int{i}}
		m.Constraints = append(m.Constraints, c)
		singles = append(singles, []int{i})
		if i < 5 {
			checkNoConflict(t, m)
		}
	}
	checkConflict(t, m, 0, 1, 2, 3, 4, 5)
	checkConflicts(t, m, lists([]int{0, 1, 2, 3, 4, 5}))
	checkRelaxations(t, m, singles)
	// Six constraints each of which is a conflict.
	m.Constraints = slices.Repeat([]impl.Constraint{never()}, 6)
	checkConflict(t, m, 5)
	checkConflicts(t, m, singles)
	checkRelaxations(t, m, lists([]int{0, 1, 2, 3, 4, 5}))
	// Constraints that are in no conflict are in no set.
	m.Constraints = slices.Repeat([]impl.Constraint{always()}, 6)
	m.Constraints[3] = never()
	checkConflict(t, m, 3)
	checkConflicts(t, m, lists([]int{3}))
	checkRelaxations(t, m, lists([]int{3}))
}

func TestConflictsOfInfeasibleDomains(t *testing.T) {
	s := newSource(64)
	empty := lists(nil)
	for n := 1; n <= 4; n++ {
		for i := range n {
			m := impl.Model{Domains: slices.Repeat([]int{63}, n)}
			m.Domains[i] = 0
			for range 7 {
				// The empty set is a conflict, so every other set has an infeasible subset, and no set is a relaxation.
				checkConflict(t, m)
				checkConflicts(t, m, empty)
				checkRelaxations(t, m, nil)
				m.Constraints = append(m.Constraints, s.constraint(n))
			}
		}
		m := impl.Model{Domains: make([]int, n), Constraints: []impl.Constraint{never(), always()}}
		checkConflict(t, m)
		checkConflicts(t, m, empty)
		checkRelaxations(t, m, nil)
	}
}

func TestFeasibleModelsHaveNoConflict(t *testing.T) {
	tried := 0
	s := newSource(65)
	for range 300 {
		m := s.quarrel()
		if len(solutionsOf(m)) == 0 {
			continue
		}
		tried++
		checkNoConflict(t, m)
		checkConflicts(t, m, nil)
		checkRelaxations(t, m, lists(nil))
	}
	if tried < 50 {
		t.Errorf("only %d models were feasible", tried)
	}
	for _, m := range []impl.Model{
		{Domains: []int{1}},
		{Domains: []int{63, 63, 63, 63}},
		{Domains: []int{32}, Constraints: slices.Repeat([]impl.Constraint{always()}, 6)},
		pairwise(4, 15),
	} {
		checkNoConflict(t, m)
		checkConflicts(t, m, nil)
		checkRelaxations(t, m, lists(nil))
	}
}

func TestConflictsThatOnlySearchFinds(t *testing.T) {
	// Three different variables with two values: propagation sees nothing, as it looks at one pair at a time.
	m := pairwise(3, 3)
	checkConflict(t, m, 0, 1, 2)
	checkConflicts(t, m, lists([]int{0, 1, 2}))
	checkRelaxations(t, m, lists([]int{0}, []int{1}, []int{2}))
	// Four variables with three values: every pair counts.
	checkConflict(t, pairwise(4, 7), 0, 1, 2, 3, 4, 5)
	checkConflicts(t, pairwise(4, 7), lists([]int{0, 1, 2, 3, 4, 5}))
	// With two values any three variables are a conflict. A relaxation leaves two groups of equal variables: two and two,
	// or one and three.
	triangles := lists([]int{0, 1, 2}, []int{0, 3, 4}, []int{1, 3, 5}, []int{2, 4, 5})
	checkConflict(t, pairwise(4, 3), 2, 4, 5)
	checkConflicts(t, pairwise(4, 3), triangles)
	checkRelaxations(t, pairwise(4, 3), append(lists([]int{0, 5}, []int{1, 4}, []int{2, 3}), triangles...))
}

func TestPromise72MinimalConflictHasAProof(t *testing.T) {
	s := newSource(66)
	smaller, long := 0, 0
	for range 600 {
		m := s.quarrel()
		conflict, ok := impl.MinimalConflict(m)
		if !ok {
			continue
		}
		part := only(m, conflict)
		proof, ok := impl.ProveInfeasible(part)
		if _, nodes := impl.Solve(part); ok != (nodes <= 200) {
			t.Fatalf("ProveInfeasible(%+v) = %v, %v", part, proof, ok)
		}
		checkProof(t, m, proof, ok)
		checkProof(t, part, proof, ok)
		if len(conflict) < len(m.Constraints) {
			smaller++
			if len(proof) > 2 {
				long++
			}
		}
	}
	if smaller < 200 || long < 20 {
		t.Errorf("only %d conflicts were proper subsets, %d of them with long proofs", smaller, long)
	}
}

func TestPromise72ProofsOfSpecialConflicts(t *testing.T) {
	// The domains alone are the conflict.
	failed := impl.Model{Domains: []int{63, 0}, Constraints: disagreement(63).Constraints}
	checkConflict(t, failed)
	checkRefutation(t, only(failed, nil), nil)
	checkProof(t, failed, steps(nil), true)
	// A proof of the conflict has more steps than one of the whole model, which fails at once.
	m := disagreement(63)
	m.Constraints = append([]impl.Constraint{never()}, m.Constraints...)
	checkConflict(t, m, 1, 2)
	proof, ok := impl.ProveInfeasible(only(m, []int{1, 2}))
	if !ok || len(proof) != 7 {
		t.Fatalf("the proof is %v, %v", proof, ok)
	}
	checkProof(t, m, proof, true)
	checkRefutation(t, m, nil)
	// The conflict has no proof of at most 200 steps, although the model has one.
	long := odd([]int{3, 2, 2}, 22)
	checkConflict(t, long, 0, 1)
	checkNoRefutation(t, only(long, []int{0, 1}))
	if _, ok := impl.ProveInfeasible(long); !ok {
		t.Error("there is no proof of the whole model")
	}
}

func TestConflictsRejectInvalidModels(t *testing.T) {
	for _, m := range invalidModels() {
		checkNoConflict(t, m)
		checkConflicts(t, m, nil)
		checkRelaxations(t, m, nil)
	}
	for _, c := range invalidConstraints() {
		for _, domain := range []int{0, 63} {
			m := impl.Model{Domains: []int{domain, 63}, Constraints: []impl.Constraint{never(), c}}
			checkNoConflict(t, m)
			checkConflicts(t, m, nil)
			checkRelaxations(t, m, nil)
		}
	}
	for _, d := range invalidDomains() {
		m := impl.Model{Domains: []int{0, d}, Constraints: []impl.Constraint{never()}}
		checkNoConflict(t, m)
		checkConflicts(t, m, nil)
		checkRelaxations(t, m, nil)
	}
}

// conflictLists calls all functions of conflicts.
func conflictLists(m impl.Model) [][]int {
	conflict, _ := impl.MinimalConflict(m)
	return slices.Concat(lists(conflict), impl.AllConflicts(m), impl.Relaxations(m))
}

func TestConflictsLeaveTheirArgumentsAlone(t *testing.T) {
	s := newSource(67)
	for range 300 {
		m := roomy(s.quarrel())
		before := snapshot(m)
		want := spoil(t, conflictLists(m))
		if !sameModel(before, snapshot(m)) {
			t.Fatal("an argument was changed, or shares memory with a result")
		}
		if !sameLists(conflictLists(m), want) {
			t.Fatal("a result is kept from call to call")
		}
	}
}

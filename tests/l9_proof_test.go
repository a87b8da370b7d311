package tests

import (
	"slices"
	"testing"

	"loop.example/constraintsolver/impl"
)

// implied is the document's definition of a clause that is implied by reverse propagation.
func implied(m impl.Model, clauses [][]impl.Literal, c []impl.Literal) bool {
	domains := slices.Clone(m.Domains)
	for _, l := range c {
		for _, a := range valuesOf(domains[l.Var]) {
			if literalHolds(l, a) {
				domains[l.Var] &^= 1 << a
			}
		}
	}
	for {
		before := slices.Clone(domains)
		domains = propagated(impl.Model{Domains: domains, Constraints: m.Constraints})
		for _, given := range clauses {
			domains = unitPropagated(given, domains)
		}
		if slices.Contains(domains, 0) {
			return true
		}
		if slices.Equal(domains, before) {
			return false
		}
	}
}

// accepted is CheckProof by its definition, for valid arguments.
func accepted(m impl.Model, proof [][]impl.Literal) bool {
	for i, step := range proof {
		if !implied(m, proof[:i], step) {
			return false
		}
	}
	return len(proof) > 0 && len(proof[len(proof)-1]) == 0
}

// excluding lists the steps of ProveInfeasible for a search node without solutions, given the clause that excludes it.
func excluding(m impl.Model, path []impl.Literal) [][]impl.Literal {
	var steps [][]impl.Literal
	domains := propagated(m)
	for v, d := range domains {
		if values := valuesOf(d); len(values) > 1 {
			for _, a := range values {
				child := fixed(impl.Model{Domains: domains, Constraints: m.Constraints}, v, a)
				steps = append(steps, excluding(child, append(slices.Clone(path), isNot(v, a)))...)
			}
			break
		}
	}
	return append(steps, path)
}

// sameProof compares proofs; nil and empty slices are equal.
func sameProof(a [][]impl.Literal, b [][]impl.Literal) bool {
	return slices.EqualFunc(a, b, slices.Equal[[]impl.Literal])
}

// cloneProof returns an independent copy of a proof.
func cloneProof(proof [][]impl.Literal) [][]impl.Literal {
	var copied [][]impl.Literal
	for _, step := range proof {
		copied = append(copied, slices.Clone(step))
	}
	return copied
}

// steps returns the proof with the given steps.
func steps(list ...[]impl.Literal) [][]impl.Literal {
	return list
}

// proof returns at most so many valid clauses for n variables.
func (s source) proof(n int, most int) [][]impl.Literal {
	var list [][]impl.Literal
	for range s.between(0, most) {
		list = append(list, s.clause(n, 1, 4))
	}
	return list
}

// tamper returns the proof with a small change that may or may not spoil it.
func (s source) tamper(proof [][]impl.Literal, n int) [][]impl.Literal {
	changed := cloneProof(proof)
	i, j := s.IntN(len(changed)), s.IntN(len(changed))
	switch s.IntN(6) {
	case 0:
		return slices.Delete(changed, i, i+1)
	case 1:
		changed[i], changed[j] = changed[j], changed[i]
	case 2:
		changed[i] = s.clause(n, 0, 4)
	case 3:
		return slices.Insert(changed, i, s.clause(n, 0, 4))
	case 4:
		if len(changed[i]) > 0 {
			k := s.IntN(len(changed[i]))
			changed[i] = slices.Delete(changed[i], k, k+1)
		}
	case 5:
		return changed[:i+1]
	}
	return changed
}

// tangledModel returns a model in which propagation sees little, so that search has something to do. Half of them have
// two constraints that contradict each other.
func (s source) tangledModel() impl.Model {
	n := s.between(3, 4)
	var m impl.Model
	for range n {
		m.Domains = append(m.Domains, s.between(1, 63)&s.between(1, 63)|3<<s.between(0, 4))
	}
	for range s.between(1, 3) {
		m.Constraints = append(m.Constraints, s.parity(s.Perm(n)[:s.between(3, n)]))
	}
	if s.IntN(2) == 0 {
		c := cloneConstraint(m.Constraints[0])
		c.Args[0] = 1 - c.Args[0]
		m.Constraints = append(m.Constraints, c)
	}
	if s.IntN(2) == 0 {
		m.Constraints = append(m.Constraints, s.constraint(n))
	}
	return m
}

// provable returns models of all sorts, for some of which search is long.
func (s source) provable() impl.Model {
	if s.IntN(2) == 0 {
		return s.tangledModel()
	}
	return s.someModel()
}

// knapsack returns a model with a sum that must not be small, and that sum as the objective, sometimes with a change. No
// single constraint shows that the sum cannot be smaller.
func (s source) knapsack() (impl.Model, []int) {
	n := s.between(3, 4)
	c := impl.Constraint{Kind: impl.Linear, Vars: s.Perm(n), Args: make([]int, n), Bound: -s.between(5, 3*n)}
	obj := s.list(n, 1, 2)
	for i, v := range c.Vars {
		c.Args[i] = -obj[v]
	}
	obj[s.IntN(n)] = s.between(1, 2)
	return impl.Model{Domains: s.list(n, 7, 63), Constraints: []impl.Constraint{c}}, obj
}

// optimization returns models of all sorts with an objective.
func (s source) optimization() (impl.Model, []int) {
	if s.IntN(2) == 0 {
		return s.knapsack()
	}
	m := s.provable()
	return m, s.objective(len(m.Domains))
}

// odd returns four variables, the number of whose odd values has to be odd and even unless the last one is 5, which its
// domain lacks. Search has to fix the first three, except where their additional constraint fails earlier.
func odd(coefficients []int, bound int) impl.Model {
	rows := [][]int{{1, 2, 1, 2, 1, 3}, {1, 2, 1, 2, 1, 2}, {2, 1, 2, 1, 2, 1}, {3, 3, 3, 3, 3, 3}}
	return impl.Model{Domains: []int{63, 63, 63, 31}, Constraints: []impl.Constraint{
		{Kind: impl.Regular, Vars: []int{3, 0, 1, 2}, Args: []int{1, 3}, Rows: rows},
		{Kind: impl.Regular, Vars: []int{3, 0, 1, 2}, Args: []int{2, 3}, Rows: rows},
		{Kind: impl.Linear, Vars: []int{0, 1, 2}, Args: coefficients, Bound: bound},
	}}
}

// disagreement returns two variables that have to be equal and different.
func disagreement(domain int) impl.Model {
	return impl.Model{Domains: []int{domain, domain}, Constraints: []impl.Constraint{
		{Kind: impl.NotEqual, Vars: []int{0, 1}, Args: []int{0}},
		{Kind: impl.Table, Vars: []int{0, 1}, Rows: [][]int{{0, 0}, {1, 1}, {2, 2}, {3, 3}, {4, 4}, {5, 5}}},
	}}
}

// checkProof reports a proof that CheckProof judges wrongly.
func checkProof(t *testing.T, m impl.Model, proof [][]impl.Literal, want bool) {
	t.Helper()
	if impl.CheckProof(m, proof) != want {
		t.Errorf("CheckProof(%+v, %v) = %v", m, proof, !want)
	}
}

// checkImplied reports a clause that IsImplied judges wrongly.
func checkImplied(t *testing.T, m impl.Model, clauses [][]impl.Literal, c []impl.Literal, want bool) {
	t.Helper()
	if impl.IsImplied(m, clauses, c) != want {
		t.Errorf("IsImplied(%+v, %v, %v) = %v", m, clauses, c, !want)
	}
}

// checkRefutation reports a model whose refutation does not have the wanted steps.
func checkRefutation(t *testing.T, m impl.Model, want ...[]impl.Literal) {
	t.Helper()
	if got, ok := impl.ProveInfeasible(m); !ok || !sameProof(got, want) {
		t.Errorf("ProveInfeasible(%+v) = %v, %v, want %v", m, got, ok, want)
	}
}

// checkNoRefutation reports a model that is refuted although it should not be.
func checkNoRefutation(t *testing.T, m impl.Model) {
	t.Helper()
	if got, ok := impl.ProveInfeasible(m); ok || len(got) != 0 {
		t.Errorf("ProveInfeasible(%+v) = %v, %v", m, got, ok)
	}
}

// checkOptimal reports a claim of optimality that CheckOptimal judges wrongly.
func checkOptimal(t *testing.T, m impl.Model, obj []int, x []int, proof [][]impl.Literal, want bool) {
	t.Helper()
	if impl.CheckOptimal(m, obj, x, proof) != want {
		t.Errorf("CheckOptimal(%+v, %v, %v, %v) = %v", m, obj, x, proof, !want)
	}
}

// checkNotProved reports an assignment that ProveOptimal proves optimal although it should not.
func checkNotProved(t *testing.T, m impl.Model, obj []int, x []int) {
	t.Helper()
	if got, ok := impl.ProveOptimal(m, obj, x); ok || len(got) != 0 {
		t.Errorf("ProveOptimal(%+v, %v, %v) = %v, %v", m, obj, x, got, ok)
	}
}

func TestPromise32ProofIsAcceptedOnlyIfTheModelIsInfeasible(t *testing.T) {
	s := newSource(46)
	tried := 0
	for range 400 {
		m := s.someModel()
		if len(solutionsOf(m)) == 0 {
			continue
		}
		tried++
		n := len(m.Domains)
		checkProof(t, m, nil, false)
		checkProof(t, m, steps(nil), false)
		checkProof(t, m, append(s.proof(n, 6), nil), false)
		// A refutation of a model with further constraints excludes solutions of m.
		smaller := impl.Model{Domains: m.Domains, Constraints: append(slices.Clone(m.Constraints), s.parity(s.Perm(n)), s.parity(s.Perm(n)))}
		if proof, ok := impl.ProveInfeasible(smaller); ok {
			checkProof(t, m, proof, false)
		}
		// So do the clauses that exclude every value of every variable.
		var all [][]impl.Literal
		for _, r := range allRemovals(n) {
			all = append(all, clause(isNot(r.Var, r.Value)))
		}
		checkProof(t, m, append(all, nil), false)
	}
	if tried < 100 {
		t.Errorf("only %d models were feasible", tried)
	}
}

func TestCheckProofByItsDefinition(t *testing.T) {
	s := newSource(47)
	seen := map[bool]int{}
	for range 400 {
		m := s.provable()
		proof, ok := impl.ProveInfeasible(m)
		if !ok || len(proof) > 60 {
			continue
		}
		for range 4 {
			changed := s.tamper(proof, len(m.Domains))
			want := accepted(m, changed)
			seen[want]++
			checkProof(t, m, changed, want)
		}
	}
	if seen[true] < 80 || seen[false] < 80 {
		t.Errorf("the proofs were not balanced: %v", seen)
	}
}

func TestPromise33InfeasibilityCanBeProved(t *testing.T) {
	s := newSource(48)
	lengths := map[bool]int{}
	for range 800 {
		m := s.provable()
		proof, ok := impl.ProveInfeasible(m)
		if len(solutionsOf(m)) > 0 {
			checkNoRefutation(t, m)
			continue
		}
		if _, nodes := impl.Solve(m); nodes > 200 {
			checkNoRefutation(t, m)
			continue
		}
		if !ok {
			t.Fatalf("ProveInfeasible(%+v) fails", m)
		}
		lengths[len(proof) > 5]++
		checkProof(t, m, proof, true)
		checkProof(t, m, append(proof, nil), len(proof) < 200)
		checkProof(t, m, proof[:len(proof)-1], false)
	}
	if lengths[true] < 30 || lengths[false] < 100 {
		t.Errorf("the lengths were not balanced: %v", lengths)
	}
}

func TestProveInfeasibleByItsDefinition(t *testing.T) {
	s := newSource(49)
	long := 0
	for range 500 {
		m := s.provable()
		if len(solutionsOf(m)) > 0 {
			continue
		}
		want := excluding(m, nil)
		if len(want) > 200 {
			checkNoRefutation(t, m)
			continue
		}
		checkRefutation(t, m, want...)
		if len(want) > 5 {
			long++
		}
	}
	if long < 30 {
		t.Errorf("only %d proofs had many steps", long)
	}
}

func TestPromise34ProofHasOneStepPerSearchNode(t *testing.T) {
	s := newSource(50)
	lengths := map[int]int{}
	for range 800 {
		m := s.provable()
		proof, ok := impl.ProveInfeasible(m)
		if !ok {
			continue
		}
		lengths[len(proof)]++
		if _, nodes := impl.Solve(m); nodes != len(proof) {
			t.Fatalf("ProveInfeasible(%+v) has %d steps for %d nodes", m, len(proof), nodes)
		}
	}
	if len(lengths) < 8 {
		t.Errorf("the lengths were not varied: %v", lengths)
	}
}

func TestRefutations(t *testing.T) {
	never := impl.Constraint{Kind: impl.Linear, Vars: []int{0}, Args: []int{0}, Bound: -1}
	// The root fails: an empty domain, or a constraint that is never satisfied.
	for n := 1; n <= 4; n++ {
		full := slices.Repeat([]int{63}, n)
		checkRefutation(t, impl.Model{Domains: full, Constraints: []impl.Constraint{never}}, nil)
		for i := range n {
			domains := slices.Clone(full)
			domains[i] = 0
			checkRefutation(t, impl.Model{Domains: domains}, nil)
			checkProof(t, impl.Model{Domains: domains}, steps(nil), true)
		}
	}
	// One step for each value, and one for the root.
	checkRefutation(t, disagreement(7), clause(isNot(0, 0)), clause(isNot(0, 1)), clause(isNot(0, 2)), nil)
	checkRefutation(t, disagreement(40), clause(isNot(0, 3)), clause(isNot(0, 5)), nil)
	checkRefutation(t, disagreement(8), nil)
	// A node comes after its children.
	checkRefutation(t, pairwise(4, 7),
		clause(isNot(0, 0), isNot(1, 1)), clause(isNot(0, 0), isNot(1, 2)), clause(isNot(0, 0)),
		clause(isNot(0, 1), isNot(1, 0)), clause(isNot(0, 1), isNot(1, 2)), clause(isNot(0, 1)),
		clause(isNot(0, 2), isNot(1, 0)), clause(isNot(0, 2), isNot(1, 1)), clause(isNot(0, 2)), nil)
	// A variable that propagation has fixed is not on the path.
	pigeons := pairwise(4, 3)
	pigeons.Domains[0] = 32
	checkRefutation(t, pigeons, clause(isNot(1, 0)), clause(isNot(1, 1)), nil)
	pigeons.Domains[0] = 36
	checkRefutation(t, pigeons,
		clause(isNot(0, 2), isNot(1, 0)), clause(isNot(0, 2), isNot(1, 1)), clause(isNot(0, 2)),
		clause(isNot(0, 5), isNot(1, 0)), clause(isNot(0, 5), isNot(1, 1)), clause(isNot(0, 5)), nil)
}

func TestFeasibleModelsHaveNoProof(t *testing.T) {
	checkNoRefutation(t, impl.Model{Domains: []int{1}})
	checkNoRefutation(t, impl.Model{Domains: []int{63, 63, 63, 63}})
	checkProof(t, impl.Model{Domains: []int{1}}, steps(nil), false)
	checkProof(t, impl.Model{Domains: []int{1}}, steps(clause(isNot(0, 0)), nil), false)
	checkProof(t, impl.Model{Domains: []int{63}}, steps(clause(is(0, 1), isNot(0, 1)), nil), false)
	// The only solution is the last assignment that search looks at.
	last := disagreement(63)
	last.Constraints[0] = impl.Constraint{Kind: impl.Linear, Vars: []int{0, 1}, Args: []int{-1, -1}, Bound: -10}
	checkNoRefutation(t, last)
	proof, _ := impl.ProveInfeasible(disagreement(63))
	checkProof(t, disagreement(63), proof, true)
	checkProof(t, last, proof, false)
	// Everything but the solution can be excluded.
	checkProof(t, last, append(slices.Clone(proof[:5]), nil), false)
	checkImplied(t, last, nil, clause(is(0, 5)), true)
	checkImplied(t, last, nil, clause(isNot(0, 5)), false)
}

func TestStepsOfProofs(t *testing.T) {
	m := disagreement(7)
	a, b, c := clause(isNot(0, 0)), clause(isNot(0, 1)), clause(isNot(0, 2))
	checkProof(t, m, steps(a, b, c, nil), true)
	// Two values are enough, in any order: propagation alone excludes the third one.
	checkProof(t, m, steps(c, a, nil), true)
	checkProof(t, m, steps(b, nil), false)
	checkProof(t, m, steps(nil), false)
	checkProof(t, m, nil, false)
	// The last step must be the empty clause, and each step counts only for those after it.
	checkProof(t, m, steps(a, b, c), false)
	checkProof(t, m, steps(a, b, nil, c), false)
	checkProof(t, m, steps(a, nil, b, nil), false)
	// After the empty clause everything is implied.
	checkProof(t, m, steps(a, b, nil, nil), true)
	checkProof(t, m, steps(a, b, nil, clause(is(0, 0)), nil), true)
	checkProof(t, m, steps(clause(is(0, 0)), nil), false)
	// A clause with a literal and its negation is implied by anything, and of no use.
	both := clause(is(0, 0), isNot(0, 0))
	checkProof(t, m, steps(both, nil), false)
	checkProof(t, m, steps(both, a, both, b, nil), true)
	// Clauses that follow together: each is implied only with the ones before it.
	checkProof(t, m, steps(clause(is(0, 1), is(0, 2)), nil), false)
	checkProof(t, m, steps(clause(isNot(0, 0), isNot(1, 0)), b, c, nil), true)
	checkProof(t, m, steps(clause(isNot(0, 0), is(1, 3)), b, c, nil), true)
}

func TestPromise35ImpliedClausesHoldInAllSolutions(t *testing.T) {
	s := newSource(51)
	seen := map[bool]int{}
	for range 1500 {
		m := s.provable()
		n := len(m.Domains)
		given, c := s.proof(n, 4), s.clause(n, 0, 5)
		got := impl.IsImplied(m, given, c)
		seen[got]++
		checkImplied(t, m, append(slices.Clone(given), c), c, true)
		checkImplied(t, m, append(steps(c), given...), c, true)
		if !got {
			continue
		}
		for _, x := range solutionsOf(m) {
			if !slices.ContainsFunc(given, func(g []impl.Literal) bool { return !clauseHolds(g, x) }) && !clauseHolds(c, x) {
				t.Fatalf("IsImplied(%+v, %v, %v), but it is false at %v", m, given, c, x)
			}
		}
	}
	if seen[true] < 200 || seen[false] < 200 {
		t.Errorf("the clauses were not balanced: %v", seen)
	}
}

func TestIsImpliedByItsDefinition(t *testing.T) {
	s := newSource(52)
	seen := map[bool]int{}
	for range 900 {
		m := s.provable()
		n := len(m.Domains)
		given, c := s.proof(n, 5), s.clause(n, 0, 3)
		want := implied(m, given, c)
		seen[want]++
		checkImplied(t, m, given, c, want)
		// The order of the clauses does not matter.
		slices.Reverse(given)
		checkImplied(t, m, given, c, want)
	}
	if seen[true] < 150 || seen[false] < 150 {
		t.Errorf("the clauses were not balanced: %v", seen)
	}
}

func TestImpliedClauses(t *testing.T) {
	free := impl.Model{Domains: []int{63, 7}}
	// A literal and its negation are false together only if there is no value at all.
	checkImplied(t, free, nil, clause(is(0, 2), isNot(0, 2)), true)
	checkImplied(t, free, nil, clause(is(0, 2), isNot(0, 2), is(1, 0)), true)
	checkImplied(t, free, steps(clause(is(0, 2), isNot(0, 2))), nil, false)
	checkImplied(t, free, steps(clause(is(0, 2), isNot(0, 2))), clause(is(0, 2)), false)
	// Two different values of a variable are not both missing from a clause without a reason.
	checkImplied(t, free, nil, clause(isNot(0, 2), isNot(0, 3)), true)
	checkImplied(t, free, nil, clause(isNot(0, 2), isNot(1, 2)), false)
	checkImplied(t, free, nil, clause(is(1, 0), is(1, 1), is(1, 2)), true)
	checkImplied(t, free, nil, clause(is(1, 0), is(1, 1)), false)
	checkImplied(t, free, nil, clause(isNot(1, 5)), true)
	checkImplied(t, free, nil, clause(is(1, 5)), false)
	checkImplied(t, free, nil, nil, false)
	checkImplied(t, free, steps(nil), nil, true)
	checkImplied(t, free, steps(nil), clause(is(1, 5)), true)
	// An empty domain implies everything.
	checkImplied(t, impl.Model{Domains: []int{63, 0}}, nil, nil, true)
	checkImplied(t, impl.Model{Domains: []int{63, 0}}, nil, clause(is(0, 1)), true)
	// Clauses become unit one after the other, whatever their order is.
	chain := steps(clause(isNot(0, 0), is(1, 1)), clause(isNot(1, 1), is(2, 2)), clause(isNot(2, 2), is(3, 3)))
	long := impl.Model{Domains: []int{63, 63, 63, 63}}
	checkImplied(t, long, chain, clause(isNot(0, 0), is(3, 3)), true)
	checkImplied(t, long, chain, clause(is(0, 0), is(3, 3)), false)
	slices.Reverse(chain)
	checkImplied(t, long, chain, clause(isNot(0, 0), is(3, 3)), true)
	// The negation is refuted by propagation, not by search.
	checkImplied(t, disagreement(7), nil, nil, false)
	checkImplied(t, disagreement(7), nil, clause(isNot(0, 1)), true)
	checkImplied(t, disagreement(7), steps(clause(isNot(0, 1))), nil, false)
	checkImplied(t, disagreement(7), steps(clause(isNot(0, 1)), clause(isNot(1, 0))), nil, true)
}

func TestClausesAndConstraintsPropagateInTurns(t *testing.T) {
	// Each clause leads to the next one only by the constraint x1 = x0 + 1 in between.
	next := impl.Model{Domains: []int{63, 63}, Constraints: []impl.Constraint{
		{Kind: impl.Element, Vars: []int{0, 1}, Args: []int{1, 2, 3, 4, 5}},
	}}
	chain := steps(clause(is(0, 1), isNot(1, 1)))
	checkImplied(t, next, chain, clause(isNot(0, 0)), true)
	checkImplied(t, next, nil, clause(isNot(0, 0)), false)
	both := impl.Model{Domains: []int{63, 63, 63, 63}, Constraints: []impl.Constraint{
		{Kind: impl.Element, Vars: []int{0, 1}, Args: []int{1, 2, 3, 4, 5}},
		{Kind: impl.Element, Vars: []int{2, 3}, Args: []int{1, 2, 3, 4, 5}},
	}}
	turns := steps(clause(isNot(1, 1), is(2, 3)), clause(is(0, 2), isNot(3, 4)))
	for range 2 {
		checkImplied(t, both, turns, clause(isNot(0, 0)), true)
		checkImplied(t, both, turns, clause(isNot(0, 1)), false)
		checkImplied(t, both, turns[:1], clause(isNot(0, 0)), false)
		checkImplied(t, both, turns[1:], clause(isNot(0, 0)), false)
		slices.Reverse(turns)
	}
}

func TestLongestProofs(t *testing.T) {
	if impl.MaxSteps != 200 {
		t.Errorf("MaxSteps = %d", impl.MaxSteps)
	}
	m := odd([]int{3, 2, 2}, 22)
	proof, ok := impl.ProveInfeasible(m)
	if !ok || len(proof) != 200 {
		t.Fatalf("ProveInfeasible(%+v) has %d steps, %v", m, len(proof), ok)
	}
	checkProof(t, m, proof, true)
	// The empty clause could be repeated if there were room for it.
	checkProof(t, m, append(slices.Clone(proof), nil), false)
	checkNoRefutation(t, odd([]int{3, 1, 3}, 22))
	checkNoRefutation(t, odd([]int{0, 0, 0}, 0))
	if _, nodes := impl.Solve(odd([]int{3, 1, 3}, 22)); nodes != 201 {
		t.Errorf("search has %d nodes", nodes)
	}
	failed := impl.Model{Domains: []int{0}}
	for _, count := range []int{1, 199, 200, 201, 1000} {
		many := make([][]impl.Literal, count)
		checkProof(t, failed, many, count <= 200)
		checkImplied(t, failed, many, nil, count <= 200)
		checkImplied(t, failed, many, clause(is(0, 0)), count <= 200)
	}
}

func TestPromise36OptimalityCanBeProved(t *testing.T) {
	s := newSource(53)
	seen := map[bool]int{}
	for range 500 {
		m, obj := s.optimization()
		list := solutionsOf(m)
		if len(list) == 0 || len(m.Constraints) == 6 {
			continue
		}
		best, _ := firstBest(list, obj)
		for _, x := range [][]int{list[0], list[len(list)-1], list[s.IntN(len(list))]} {
			proof, ok := impl.ProveOptimal(m, obj, x)
			seen[ok]++
			if ok != (valueAt(obj, x) == valueAt(obj, best)) {
				// The proof may be too long.
				if _, nodes := impl.Solve(better(m, obj, x)); ok || nodes <= 200 {
					t.Fatalf("ProveOptimal(%+v, %v, %v) = %v, %v", m, obj, x, proof, ok)
				}
			}
			if !ok {
				checkNotProved(t, m, obj, x)
				continue
			}
			checkOptimal(t, m, obj, x, proof, true)
			if y, _ := impl.Minimize(m, obj); valueAt(obj, x) != valueAt(obj, y) {
				t.Fatalf("ProveOptimal(%+v, %v, %v) = %v", m, obj, x, proof)
			}
		}
	}
	if seen[true] < 100 || seen[false] < 100 {
		t.Errorf("the assignments were not balanced: %v", seen)
	}
}

// better returns m with the constraint that the objective is smaller than at x.
func better(m impl.Model, obj []int, x []int) impl.Model {
	c := impl.Constraint{Kind: impl.Linear, Vars: []int{0, 1, 2, 3}[:len(x)], Args: obj, Bound: valueAt(obj, x) - 1}
	return impl.Model{Domains: m.Domains, Constraints: append(slices.Clone(m.Constraints), c)}
}

func TestProveOptimalByItsDefinition(t *testing.T) {
	s := newSource(54)
	long := 0
	for range 300 {
		m, obj := s.optimization()
		list := solutionsOf(m)
		if len(list) == 0 || len(m.Constraints) == 6 {
			continue
		}
		x, _ := firstBest(list, obj)
		want := excluding(better(m, obj, x), nil)
		if got, ok := impl.ProveOptimal(m, obj, x); ok != (len(want) <= 200) || ok && !sameProof(got, want) {
			t.Fatalf("ProveOptimal(%+v, %v, %v) = %v, %v, want %v", m, obj, x, got, ok, want)
		}
		if len(want) > 1 {
			long++
		}
	}
	if long < 15 {
		t.Errorf("only %d proofs had more than one step", long)
	}
}

func TestPromise37ClaimOfOptimalityIsAcceptedOnlyIfItIsTrue(t *testing.T) {
	s := newSource(55)
	seen := map[bool]int{}
	for range 500 {
		m, obj := s.optimization()
		n := len(m.Domains)
		list := solutionsOf(m)
		if len(list) == 0 || len(m.Constraints) == 6 {
			continue
		}
		best, _ := firstBest(list, obj)
		proof, ok := impl.ProveOptimal(m, obj, best)
		if !ok {
			continue
		}
		x := list[s.IntN(len(list))]
		y := s.list(n, 0, 5)
		for _, p := range [][][]impl.Literal{proof, steps(nil), append(s.proof(n, 4), nil), s.tamper(proof, n)} {
			for _, claimed := range [][]int{best, x, y} {
				if !impl.CheckOptimal(m, obj, claimed, p) {
					seen[false]++
					continue
				}
				seen[true]++
				if !impl.IsSolution(m, claimed) || valueAt(obj, claimed) != valueAt(obj, best) {
					t.Fatalf("CheckOptimal(%+v, %v, %v, %v)", m, obj, claimed, p)
				}
			}
		}
	}
	if seen[true] < 300 || seen[false] < 300 {
		t.Errorf("the claims were not balanced: %v", seen)
	}
}

func TestCheckOptimalByItsDefinition(t *testing.T) {
	s := newSource(56)
	seen := map[bool]int{}
	for range 300 {
		m, obj := s.optimization()
		n := len(m.Domains)
		list := solutionsOf(m)
		if len(list) == 0 || len(m.Constraints) == 6 {
			continue
		}
		x, _ := firstBest(list, obj)
		proof, ok := impl.ProveOptimal(m, obj, x)
		if !ok || len(proof) > 40 {
			continue
		}
		for _, p := range [][][]impl.Literal{proof, s.tamper(proof, n), steps(nil), s.proof(n, 3)} {
			want := accepted(better(m, obj, x), p)
			seen[want]++
			checkOptimal(t, m, obj, x, p, want)
		}
	}
	if seen[true] < 50 || seen[false] < 50 {
		t.Errorf("the proofs were not balanced: %v", seen)
	}
}

func TestProofsOfOptimality(t *testing.T) {
	free := impl.Model{Domains: []int{63, 62}}
	zero := []int{0, 0}
	// Without coefficients every solution is optimal, and nothing can be less than 0.
	for _, x := range solutionsOf(free) {
		proof, ok := impl.ProveOptimal(free, zero, x)
		if !ok || !sameProof(proof, steps(nil)) {
			t.Errorf("ProveOptimal(%+v, %v, %v) = %v, %v", free, zero, x, proof, ok)
		}
		checkOptimal(t, free, zero, x, steps(nil), true)
	}
	checkOptimal(t, free, []int{1, -1}, []int{0, 5}, steps(nil), true)
	checkOptimal(t, free, []int{9, 9}, []int{0, 1}, steps(nil), true)
	checkOptimal(t, free, []int{-9, -9}, []int{5, 5}, steps(nil), true)
	checkOptimal(t, free, []int{-9, -9}, []int{5, 4}, steps(nil), false)
	checkOptimal(t, free, []int{-9, -9}, []int{5, 5}, nil, false)
	checkNotProved(t, free, []int{1, -1}, []int{0, 4})
	checkNotProved(t, free, []int{1, -1}, []int{1, 5})
	// It is not enough that x is better than every solution.
	checkNotProved(t, free, []int{1, 1}, []int{0, 0})
	checkOptimal(t, free, []int{1, 1}, []int{0, 0}, steps(nil), false)
	// Of several optimal solutions each one is accepted, not only the first.
	sum := atLeast(2, 7)
	for _, x := range solutionsOf(sum) {
		proof, ok := impl.ProveOptimal(sum, []int{1, 1}, x)
		if ok != (x[0]+x[1] == 7) {
			t.Errorf("ProveOptimal(%+v, [1 1], %v) = %v, %v", sum, x, proof, ok)
		}
		checkOptimal(t, sum, []int{1, 1}, x, proof, ok)
	}
	// The proof of one solution is not one of a worse solution.
	proof, _ := impl.ProveOptimal(sum, []int{1, 1}, []int{2, 5})
	checkOptimal(t, sum, []int{1, 1}, []int{5, 2}, proof, true)
	checkOptimal(t, sum, []int{1, 1}, []int{3, 5}, proof, false)
	checkOptimal(t, sum, []int{1, 1}, []int{2, 4}, proof, false)
}

func TestInfeasibleModelsHaveNoOptimum(t *testing.T) {
	m := disagreement(7)
	proof, _ := impl.ProveInfeasible(m)
	checkProof(t, m, proof, true)
	for _, x := range append(allAssignments(2), nil) {
		for _, obj := range [][]int{{0, 0}, {1, 1}, {-9, 9}} {
			checkNotProved(t, m, obj, x)
			checkOptimal(t, m, obj, x, proof, false)
			checkOptimal(t, impl.Model{Domains: []int{0, 63}}, obj, x, steps(nil), false)
		}
	}
}

func TestOptimalityNeedsRoomForAConstraintAndTheSteps(t *testing.T) {
	m := impl.Model{Domains: []int{63}}
	for range 6 {
		if proof, ok := impl.ProveOptimal(m, []int{1}, []int{0}); !ok || !sameProof(proof, steps(nil)) {
			t.Errorf("ProveOptimal(%+v) = %v, %v", m, proof, ok)
		}
		checkOptimal(t, m, []int{1}, []int{0}, steps(nil), true)
		m.Constraints = append(m.Constraints, impl.Constraint{Kind: impl.AllDifferent, Vars: []int{0}})
	}
	checkNotProved(t, m, []int{1}, []int{0})
	checkOptimal(t, m, []int{1}, []int{0}, steps(nil), false)
	// The last variable is 5 in every solution, and it takes as many steps as in TestLongestProofs to prove that.
	long, x, obj := odd([]int{3, 2, 2}, 22), []int{0, 0, 0, 5}, []int{0, 0, 0, 1}
	long.Domains[3] = 63
	proof, ok := impl.ProveOptimal(long, obj, x)
	if !ok || len(proof) != 200 {
		t.Errorf("ProveOptimal(%+v) has %d steps, %v", long, len(proof), ok)
	}
	checkOptimal(t, long, obj, x, proof, true)
	checkOptimal(t, long, obj, x, append(slices.Clone(proof), nil), false)
	longer := odd([]int{3, 1, 3}, 22)
	longer.Domains[3] = 63
	checkNotProved(t, longer, obj, x)
	checkOptimal(t, longer, obj, x, steps(nil), false)
}

func TestProofsRejectInvalidModels(t *testing.T) {
	for _, m := range invalidModels() {
		n := len(m.Domains)
		checkNoRefutation(t, m)
		checkProof(t, m, steps(nil), false)
		checkProof(t, m, nil, false)
		checkImplied(t, m, nil, nil, false)
		checkImplied(t, m, steps(nil), nil, false)
		checkImplied(t, m, nil, clause(is(0, 0), isNot(0, 0)), false)
		for _, x := range [][]int{nil, make([]int, n), slices.Repeat([]int{5}, n)} {
			checkNotProved(t, m, make([]int, n), x)
			checkOptimal(t, m, make([]int, n), x, steps(nil), false)
		}
	}
}

func TestProofsRejectInvalidClauses(t *testing.T) {
	for n := 1; n <= 4; n++ {
		failed := impl.Model{Domains: make([]int, n)}
		free := impl.Model{Domains: slices.Repeat([]int{63}, n)}
		zeros := make([]int, n)
		checkProof(t, failed, steps(clause(is(n-1, 0)), nil), true)
		checkOptimal(t, free, zeros, zeros, steps(clause(is(n-1, 0)), nil), true)
		for _, c := range invalidClauses(n) {
			checkProof(t, failed, steps(c), false)
			checkProof(t, failed, steps(c, nil), false)
			checkProof(t, failed, steps(nil, c, nil), false)
			checkProof(t, failed, steps(nil, c), false)
			checkImplied(t, failed, nil, c, false)
			checkImplied(t, failed, steps(c), nil, false)
			checkImplied(t, failed, steps(nil, c), nil, false)
			checkImplied(t, failed, steps(c, nil), clause(is(0, 0)), false)
			checkImplied(t, failed, steps(c), c, false)
			checkOptimal(t, free, zeros, zeros, steps(c, nil), false)
			checkOptimal(t, free, zeros, zeros, steps(nil, c, nil), false)
		}
	}
}

func TestOptimalityRejectsInvalidObjectivesAndAssignments(t *testing.T) {
	for n := 1; n <= 4; n++ {
		m := impl.Model{Domains: slices.Repeat([]int{31}, n)}
		zeros := make([]int, n)
		for _, obj := range invalidObjectives(n) {
			checkNotProved(t, m, obj, zeros)
			checkOptimal(t, m, obj, zeros, steps(nil), false)
		}
		for _, x := range [][]int{nil, {}, make([]int, n-1), make([]int, n+1), make([]int, 100)} {
			checkNotProved(t, m, zeros, x)
			checkOptimal(t, m, zeros, x, steps(nil), false)
			checkNotProved(t, m, make([]int, len(x)), x)
			checkOptimal(t, m, make([]int, len(x)), x, steps(nil), false)
		}
		for i := range n {
			// A value that is not in the domain, and numbers that are no values.
			for _, v := range []int{5, -1, 6, 64, 1 << 32, smallestInt, largestInt} {
				x := make([]int, n)
				x[i] = v
				checkNotProved(t, m, zeros, x)
				checkOptimal(t, m, zeros, x, steps(nil), false)
			}
		}
	}
	// An assignment that violates a constraint.
	checkNotProved(t, atLeast(2, 3), []int{1, 1}, []int{1, 1})
	checkOptimal(t, atLeast(2, 3), []int{1, 1}, []int{1, 1}, steps(nil), false)
	checkNotProved(t, atLeast(2, 3), []int{0, 0}, []int{1, 1})
	checkOptimal(t, atLeast(2, 3), []int{0, 0}, []int{1, 1}, steps(nil), false)
}

// spoilProof returns a copy of the proof after it has overwritten it, with its spare memory. It reports steps that share
// memory.
func spoilProof(t *testing.T, proof [][]impl.Literal) [][]impl.Literal {
	t.Helper()
	kept := cloneProof(proof)
	for i, step := range proof {
		if !slices.Equal(step, kept[i]) {
			t.Fatal("two steps share memory")
		}
		spoilClause(step)
	}
	clear(proof[:cap(proof)])
	return kept
}

func TestProofsLeaveTheirArgumentsAlone(t *testing.T) {
	s := newSource(57)
	for i := range 300 {
		m := roomy(s.someModel())
		if i%2 == 0 {
			m = roomy(s.hardModel())
		}
		n := len(m.Domains)
		obj, x := s.objective(n), s.list(n, 0, 5)
		if y, ok := impl.Minimize(m, obj); ok {
			x = y
		}
		objBefore, xBefore, before := slices.Clone(obj), slices.Clone(x), snapshot(m)
		var plain, proof [][]impl.Literal
		for _, step := range s.proof(n, 6) {
			plain, proof = append(plain, step), append(proof, marked(step))
		}
		for _, prove := range []func() ([][]impl.Literal, bool){
			func() ([][]impl.Literal, bool) { return impl.ProveInfeasible(m) },
			func() ([][]impl.Literal, bool) { return impl.ProveOptimal(m, obj, x) },
		} {
			first, ok := prove()
			want := spoilProof(t, first)
			if again, okAgain := prove(); ok != okAgain || !sameProof(again, want) {
				t.Fatal("a result is kept from call to call")
			}
		}
		impl.IsImplied(m, proof, marked(s.clause(n, 0, 3)))
		impl.CheckProof(m, append(slices.Clone(proof), nil))
		impl.CheckOptimal(m, obj, x, append(slices.Clone(proof), nil))
		if !sameModel(before, snapshot(m)) || !slices.Equal(obj, objBefore) || !slices.Equal(x, xBefore) {
			t.Fatal("an argument was changed, or shares memory with a result")
		}
		for i, step := range proof {
			if !isMarked(step, plain[i]) {
				t.Fatal("a step was changed")
			}
		}
	}
}

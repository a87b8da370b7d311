package tests

import (
	"slices"
	"testing"

	"loop.example/constraintsolver/impl"
)

// restrictedTo returns m with domains of the values that make all of the literals true.
func restrictedTo(m impl.Model, lits []impl.Literal) impl.Model {
	domains := make([]int, len(m.Domains))
	for v, d := range m.Domains {
		for _, a := range valuesOf(d) {
			if !slices.ContainsFunc(lits, func(l impl.Literal) bool { return l.Var == v && !literalHolds(l, a) }) {
				domains[v] |= 1 << a
			}
		}
	}
	return impl.Model{Domains: domains, Constraints: m.Constraints}
}

// allTrue reports whether x makes all of the literals true.
func allTrue(lits []impl.Literal, x []int) bool {
	return !slices.ContainsFunc(lits, func(l impl.Literal) bool { return !literalHolds(l, x[l.Var]) })
}

// satisfiesAll reports whether x satisfies all of the clauses.
func satisfiesAll(clauses [][]impl.Literal, x []int) bool {
	return !slices.ContainsFunc(clauses, func(c []impl.Literal) bool { return !clauseHolds(c, x) })
}

// refuted is Refutes by its definition, for valid arguments.
func refuted(m impl.Model, lits []impl.Literal) bool {
	return propagated(restrictedTo(m, lits))[0] == 0
}

// keptOf drops each literal, in order, if the others that are left are still refuted.
func keptOf(lits []impl.Literal, isRefuted func(lits []impl.Literal) bool) []impl.Literal {
	kept := lits
	for _, l := range lits {
		rest := slices.DeleteFunc(slices.Clone(kept), func(other impl.Literal) bool { return other == l })
		if isRefuted(rest) {
			kept = rest
		}
	}
	return kept
}

// propagatedWith is PropagateClauses by its definition, for valid arguments.
func propagatedWith(m impl.Model, clauses [][]impl.Literal) []int {
	domains := slices.Clone(m.Domains)
	for {
		before := slices.Clone(domains)
		for _, c := range clauses {
			domains = unitPropagated(c, domains)
		}
		domains = propagated(impl.Model{Domains: domains, Constraints: m.Constraints})
		if slices.Equal(domains, before) {
			return domains
		}
	}
}

// learning is SolveLearning by its definition: the model, the clauses learned so far, and the number of visited nodes.
type learning struct {
	m       impl.Model
	clauses [][]impl.Literal
	nodes   int
}

// domains returns the domains of the node with the given decisions, as long as no further clause is learned.
func (l *learning) domains(decisions []impl.Literal) []int {
	return impl.PropagateClauses(restrictedTo(l.m, decisions), l.clauses)
}

func (l *learning) refutes(decisions []impl.Literal) bool {
	return l.domains(decisions)[0] == 0
}

// search visits a node and what is below it. If there is no solution, it learns a clause.
func (l *learning) search(decisions []impl.Literal) []int {
	l.nodes++
	domains := l.domains(decisions)
	v := slices.IndexFunc(domains, func(d int) bool { return len(valuesOf(d)) != 1 })
	if v < 0 {
		x := make([]int, len(domains))
		for i, d := range domains {
			x[i] = valuesOf(d)[0]
		}
		return x
	}
	for _, a := range valuesOf(domains[v]) {
		if x := l.search(append(slices.Clone(decisions), is(v, a))); x != nil {
			return x
		}
	}
	if len(l.clauses) < 200 && l.refutes(decisions) {
		l.clauses = append(l.clauses, opposites(keptOf(decisions, l.refutes)))
	}
	return nil
}

// opposites returns the negations of the literals in the same order.
func opposites(lits []impl.Literal) []impl.Literal {
	var list []impl.Literal
	for _, l := range lits {
		list = append(list, opposite(l))
	}
	return list
}

// conjunction returns a valid conjunction for n variables, mostly a short one.
func (s source) conjunction(n int) []impl.Literal {
	if s.IntN(8) == 0 {
		return s.clause(n, 0, 12)
	}
	return s.clause(n, 0, 4)
}

// fixedValues returns a conjunction that fixes every variable to a value of its domain, none of which is empty.
func (s source) fixedValues(m impl.Model) []impl.Literal {
	var lits []impl.Literal
	for v, d := range m.Domains {
		values := valuesOf(d)
		lits = append(lits, is(v, values[s.IntN(len(values))]))
	}
	return lits
}

// tightConjunction returns a model with a conjunction that is often refuted, if not with a single literal.
func (s source) tightConjunction() (impl.Model, []impl.Literal) {
	m := s.hardModel()
	if s.IntN(2) == 0 {
		m = s.provable()
	}
	if slices.Contains(m.Domains, 0) || s.IntN(3) == 0 {
		return m, s.clause(len(m.Domains), 1, 8)
	}
	lits := s.fixedValues(m)
	for i := range lits {
		lits[i].Not = s.IntN(6) == 0
	}
	return m, lits
}

// valuesFixedBy returns the values of a conjunction of fixedValues.
func valuesFixedBy(lits []impl.Literal) []int {
	var x []int
	for _, l := range lits {
		x = append(x, l.Value)
	}
	return x
}

// table returns a Table constraint.
func table(vars []int, rows ...[]int) impl.Constraint {
	return impl.Constraint{Kind: impl.Table, Vars: vars, Rows: rows}
}

// funnel returns a model whose first variable has three values. Propagation excludes 1 and 2 as soon as 0 is excluded, but
// none of them before.
func funnel() impl.Model {
	return impl.Model{Domains: []int{7, 3, 3}, Constraints: []impl.Constraint{
		table([]int{0, 1}, []int{0, 0}, []int{1, 1}, []int{2, 1}),
		table([]int{0, 2}, []int{0, 0}, []int{1, 1}, []int{2, 1}),
		{Kind: impl.NotEqual, Vars: []int{1, 2}, Args: []int{0}},
	}}
}

// checkRefutes reports a conjunction that Refutes judges wrongly.
func checkRefutes(t *testing.T, m impl.Model, lits []impl.Literal, want bool) {
	t.Helper()
	if impl.Refutes(m, lits) != want {
		t.Errorf("Refutes(%+v, %v) = %v", m, lits, !want)
	}
}

// checkNogood reports a conjunction that IsNogood judges wrongly.
func checkNogood(t *testing.T, m impl.Model, lits []impl.Literal, want bool) {
	t.Helper()
	if impl.IsNogood(m, lits) != want {
		t.Errorf("IsNogood(%+v, %v) = %v", m, lits, !want)
	}
}

// checkMinimal reports a conjunction of which MinimalNogood does not keep the wanted literals.
func checkMinimal(t *testing.T, m impl.Model, lits []impl.Literal, want ...impl.Literal) {
	t.Helper()
	if got, ok := impl.MinimalNogood(m, lits); !ok || !slices.Equal(got, want) {
		t.Errorf("MinimalNogood(%+v, %v) = %v, %v, want %v", m, lits, got, ok, want)
	}
}

// checkNotMinimal reports a conjunction that MinimalNogood should not accept.
func checkNotMinimal(t *testing.T, m impl.Model, lits []impl.Literal) {
	t.Helper()
	if got, ok := impl.MinimalNogood(m, lits); ok || len(got) != 0 {
		t.Errorf("MinimalNogood(%+v, %v) = %v, %v", m, lits, got, ok)
	}
}

// checkNegations reports literals whose negations are not the wanted clause.
func checkNegations(t *testing.T, n int, lits []impl.Literal, want ...impl.Literal) {
	t.Helper()
	if got, ok := impl.NegateAll(n, lits); !ok || !slices.Equal(got, want) {
		t.Errorf("NegateAll(%d, %v) = %v, %v, want %v", n, lits, got, ok, want)
	}
}

// checkNotNegated reports literals that NegateAll should not accept.
func checkNotNegated(t *testing.T, n int, lits []impl.Literal) {
	t.Helper()
	if got, ok := impl.NegateAll(n, lits); ok || len(got) != 0 {
		t.Errorf("NegateAll(%d, %v) = %v, %v", n, lits, got, ok)
	}
}

// checkWithClauses reports clauses with which PropagateClauses does not lead to the wanted domains.
func checkWithClauses(t *testing.T, m impl.Model, clauses [][]impl.Literal, want ...int) {
	t.Helper()
	if got := impl.PropagateClauses(m, clauses); !slices.Equal(got, want) {
		t.Errorf("PropagateClauses(%+v, %v) = %v, want %v", m, clauses, got, want)
	}
}

// checkLearning reports a model for which SolveLearning does not return what is wanted.
func checkLearning(t *testing.T, m impl.Model, want []int, wantNodes int, wantClauses ...[]impl.Literal) {
	t.Helper()
	x, clauses, nodes := impl.SolveLearning(m)
	if !slices.Equal(x, want) || !sameProof(clauses, wantClauses) || nodes != wantNodes {
		t.Errorf("SolveLearning(%+v) = %v, %v, %d, want %v, %v, %d", m, x, clauses, nodes, want, wantClauses, wantNodes)
	}
}

func TestPromise73PropagationRefutesOnlyNogoods(t *testing.T) {
	s := newSource(140)
	seen, deep := map[bool]int{}, 0
	for range 1500 {
		m := s.provable()
		lits := s.conjunction(len(m.Domains))
		got := impl.Refutes(m, lits)
		seen[got]++
		if got && slices.ContainsFunc(solutionsOf(m), func(x []int) bool { return allTrue(lits, x) }) {
			t.Fatalf("Refutes(%+v, %v), but a solution makes them true", m, lits)
		}
		if got {
			checkNogood(t, m, lits, true)
		} else if impl.IsNogood(m, lits) {
			deep++
		}
	}
	if seen[true] < 300 || seen[false] < 300 || deep < 50 {
		t.Errorf("the conjunctions were not balanced: %v, %d nogoods that only search finds", seen, deep)
	}
}

func TestPromise73ConjunctionsThatFixEveryVariable(t *testing.T) {
	s := newSource(141)
	seen := map[bool]int{}
	for range 600 {
		m := s.provable()
		if slices.Contains(m.Domains, 0) {
			continue
		}
		list := [][]impl.Literal{s.fixedValues(m), s.fixedValues(m)}
		if x, _ := impl.Solve(m); x != nil {
			var lits []impl.Literal
			for v, a := range x {
				lits = append(lits, is(v, a))
			}
			list = append(list, lits)
		}
		for _, lits := range list {
			x := valuesFixedBy(lits)
			solves := inDomains(m, x) && len(brokenBy(m, x)) == 0
			checkRefutes(t, m, lits, !solves)
			checkNogood(t, m, lits, !solves)
			seen[solves]++
		}
	}
	if seen[true] < 200 || seen[false] < 200 {
		t.Errorf("the values were not balanced: %v", seen)
	}
}

func TestRefutesByItsDefinition(t *testing.T) {
	s := newSource(142)
	seen := map[bool]int{}
	for range 600 {
		m := s.provable()
		lits := s.conjunction(len(m.Domains))
		want := refuted(m, lits)
		checkRefutes(t, m, lits, want)
		seen[want]++
	}
	if seen[true] < 150 || seen[false] < 150 {
		t.Errorf("the conjunctions were not balanced: %v", seen)
	}
}

func TestPromise74NogoodExcludesNoSolution(t *testing.T) {
	s := newSource(143)
	seen, listed := map[bool]int{}, map[bool]int{}
	for range 900 {
		m := s.provable()
		lits := s.conjunction(len(m.Domains))
		list := solutionsOf(m)
		want := !slices.ContainsFunc(list, func(x []int) bool { return allTrue(lits, x) })
		checkNogood(t, m, lits, want)
		seen[want]++
		if n := impl.CountWith(m, lits); (n == 0) != want {
			t.Fatalf("IsNogood(%+v, %v) = %v, but CountWith is %d", m, lits, want, n)
		}
		if len(list) > 20 {
			continue
		}
		listed[want]++
		c, ok := impl.NegateAll(len(m.Domains), lits)
		excludes := slices.ContainsFunc(impl.SolveAll(m, 20), func(x []int) bool { return !impl.ClauseHolds(c, x) })
		if !ok || excludes == want {
			t.Fatalf("IsNogood(%+v, %v) = %v, but it is %v that the clause %v excludes a solution", m, lits, want, excludes, c)
		}
	}
	if seen[true] < 200 || seen[false] < 150 || listed[true] < 200 || listed[false] < 20 {
		t.Errorf("the conjunctions were not balanced: %v, %v", seen, listed)
	}
}

func TestNogoods(t *testing.T) {
	// The three variables have two values, so that there is no solution, but propagation sees this only after a decision.
	m := pairwise(3, 3)
	checkRefutes(t, m, nil, false)
	checkNogood(t, m, nil, true)
	for v := range 3 {
		for a := range 6 {
			checkRefutes(t, m, clause(is(v, a)), true)
			checkRefutes(t, m, clause(isNot(v, a)), a < 2)
			checkNogood(t, m, clause(isNot(v, a)), true)
		}
	}
	// There is a solution if the first one has a third value.
	m.Domains[0] = 7
	checkNogood(t, m, nil, false)
	checkRefutes(t, m, clause(is(0, 0)), true)
	checkNogood(t, m, clause(is(0, 0)), true)
	checkNogood(t, m, clause(is(0, 2)), false)
	checkNogood(t, m, clause(isNot(0, 0)), false)
	checkNogood(t, m, clause(isNot(0, 2)), true)
	checkRefutes(t, m, clause(isNot(0, 2)), false)
	checkNogood(t, m, clause(isNot(0, 0), isNot(0, 1), is(1, 0), is(2, 1)), false)
	checkNogood(t, m, clause(isNot(0, 0), isNot(0, 1), is(1, 0), is(2, 0)), true)
}

func TestEmptyConjunctions(t *testing.T) {
	// Without literals only the model counts.
	for _, none := range [][]impl.Literal{nil, {}} {
		checkRefutes(t, impl.Model{Domains: []int{63, 1}}, none, false)
		checkNogood(t, impl.Model{Domains: []int{63, 1}}, none, false)
		checkNotMinimal(t, impl.Model{Domains: []int{63, 1}}, none)
		checkNotMinimal(t, pairwise(3, 3), none)
		failed := pairwise(2, 1)
		checkRefutes(t, failed, none, true)
		checkNogood(t, failed, none, true)
		checkMinimal(t, failed, none)
		for n := 1; n <= 4; n++ {
			checkNegations(t, n, none)
		}
	}
}

func TestConjunctionsOfALiteralAndItsNegation(t *testing.T) {
	m := impl.Model{Domains: []int{63, 63}}
	for v := range 2 {
		for a := range 6 {
			both := clause(is(v, a), isNot(v, a))
			checkRefutes(t, m, both, true)
			checkNogood(t, m, both, true)
			checkMinimal(t, m, both, both...)
			// The clause of the negations has them in order, too, and is always true.
			checkNegations(t, 2, both, both...)
			checkWithClauses(t, m, steps(both), 63, 63)
		}
	}
	checkMinimal(t, m, clause(is(0, 2), isNot(0, 2), isNot(1, 0)), is(0, 2), isNot(0, 2))
	checkMinimal(t, m, clause(isNot(0, 1), is(1, 3), isNot(1, 3), is(1, 4)), is(1, 3), is(1, 4))
	checkMinimal(t, m, clause(is(0, 1), is(0, 3), isNot(0, 3)), is(0, 3), isNot(0, 3))
	// Literals of one variable that have no value in common, or exclude all of them.
	checkRefutes(t, m, clause(is(1, 0), is(1, 5)), true)
	checkRefutes(t, m, clause(is(0, 0), is(1, 5)), false)
	checkRefutes(t, m, clause(isNot(1, 0), isNot(1, 1), isNot(1, 2), isNot(1, 3), isNot(1, 4)), false)
	checkRefutes(t, m, clause(isNot(1, 0), isNot(1, 1), isNot(1, 2), isNot(1, 3), isNot(1, 4), isNot(1, 5)), true)
	checkRefutes(t, m, clause(is(0, 3), isNot(0, 2), isNot(0, 4)), false)
}

func TestConjunctionsAndDomainsThatAreEmptyInTheModel(t *testing.T) {
	for _, domains := range [][]int{{0}, {0, 63}, {63, 0}, {1, 2, 4, 0}, {0, 0, 0, 0}} {
		m := impl.Model{Domains: domains}
		n := len(domains)
		for _, lits := range [][]impl.Literal{nil, {is(0, 0)}, {isNot(n-1, 5)}, {is(0, 3), isNot(0, 3)}} {
			checkRefutes(t, m, lits, true)
			checkNogood(t, m, lits, true)
			checkMinimal(t, m, lits)
		}
		zeros := make([]int, n)
		checkWithClauses(t, m, nil, zeros...)
		checkWithClauses(t, m, steps(clause(is(0, 0))), zeros...)
		checkLearning(t, m, nil, 1, nil)
	}
}

func TestPromise75MinimalNogoodHasNoSuperfluousLiteral(t *testing.T) {
	s := newSource(144)
	seen := map[int]int{}
	for range 2500 {
		m, lits := s.tightConjunction()
		got, ok := impl.MinimalNogood(m, lits)
		if ok != impl.Refutes(m, lits) {
			t.Fatalf("MinimalNogood(%+v, %v) = %v, %v", m, lits, got, ok)
		}
		if !ok {
			checkNotMinimal(t, m, lits)
			continue
		}
		seen[len(got)]++
		checkRefutes(t, m, got, true)
		for i, l := range got {
			if !slices.Contains(lits, l) {
				t.Fatalf("MinimalNogood(%+v, %v) = %v", m, lits, got)
			}
			checkRefutes(t, m, slices.Delete(slices.Clone(got), i, i+1), false)
		}
	}
	if seen[0] < 100 || seen[1] < 100 || seen[2] < 100 || seen[3] < 50 {
		t.Errorf("the conjunctions were not balanced: %v", seen)
	}
}

func TestMinimalNogoodByItsDefinition(t *testing.T) {
	s := newSource(145)
	dropped := 0
	for range 900 {
		m, lits := s.tightConjunction()
		isRefuted := func(lits []impl.Literal) bool { return impl.Propagate(restrictedTo(m, lits))[0] == 0 }
		if !isRefuted(lits) {
			checkNotMinimal(t, m, lits)
			continue
		}
		want := keptOf(lits, isRefuted)
		checkMinimal(t, m, lits, want...)
		if len(want) > 0 && len(want) < len(lits) {
			dropped++
		}
	}
	if dropped < 300 {
		t.Errorf("only %d nogoods lost some of their literals", dropped)
	}
}

func TestLiteralsAreDroppedInOrder(t *testing.T) {
	// Each of the literals is enough, and the last one is kept.
	checkMinimal(t, pairwise(3, 3), clause(is(0, 0), is(1, 1), isNot(2, 0)), isNot(2, 0))
	checkMinimal(t, pairwise(3, 3), clause(isNot(0, 0), is(1, 1)), is(1, 1))
	// The first one is dropped, since the others are enough, so that the second one is needed.
	m := impl.Model{Domains: []int{63, 63, 63}, Constraints: []impl.Constraint{
		{Kind: impl.NotEqual, Vars: []int{0, 1}, Args: []int{0}}, {Kind: impl.NotEqual, Vars: []int{1, 2}, Args: []int{0}},
	}}
	checkMinimal(t, m, clause(is(0, 4), is(1, 4), is(2, 4)), is(1, 4), is(2, 4))
	checkMinimal(t, m, clause(is(0, 4), is(1, 4), is(2, 3)), is(0, 4), is(1, 4))
	checkNotMinimal(t, m, clause(is(0, 4), is(1, 3), is(2, 4)))
	// All of them are needed.
	all := clause(isNot(1, 0), isNot(1, 1), isNot(1, 2), isNot(1, 3), isNot(1, 4), isNot(1, 5))
	checkMinimal(t, m, all, all...)
	checkMinimal(t, m, append(clause(is(0, 0), isNot(0, 5)), all...), all...)
}

func TestPromise76NegatingTwiceRestoresAConjunction(t *testing.T) {
	s := newSource(146)
	for range 600 {
		n := s.between(1, 4)
		lits := s.clause(n, 0, 12)
		c, ok := impl.NegateAll(n, lits)
		if !ok || len(c) != len(lits) {
			t.Fatalf("NegateAll(%d, %v) = %v, %v", n, lits, c, ok)
		}
		checkValid(t, c, n, true)
		checkNegations(t, n, c, lits...)
		for range 50 {
			x := s.list(n, 0, 5)
			if impl.ClauseHolds(c, x) == allTrue(lits, x) {
				t.Fatalf("NegateAll(%d, %v) = %v, which is wrong at %v", n, lits, c, x)
			}
		}
	}
}

func TestNegations(t *testing.T) {
	checkNegations(t, 1, clause(is(0, 0)), isNot(0, 0))
	checkNegations(t, 1, clause(isNot(0, 5)), is(0, 5))
	checkNegations(t, 2, clause(is(0, 1), isNot(1, 2)), isNot(0, 1), is(1, 2))
	checkNegations(t, 4, clause(isNot(0, 1), is(0, 2), is(3, 0), is(3, 5)), is(0, 1), isNot(0, 2), isNot(3, 0), isNot(3, 5))
	checkNegations(t, 3, clause(is(0, 1), isNot(0, 1), is(2, 2), isNot(2, 2)), is(0, 1), isNot(0, 1), is(2, 2), isNot(2, 2))
	for n := 1; n <= 4; n++ {
		// The clause has as many literals as the conjunction, so the limit is the same.
		longest := allLiterals(n)[12*n-12:]
		checkNegations(t, n, longest, longest...)
		if n > 1 {
			checkNotNegated(t, n, allLiterals(n)[:13])
		}
		for _, lits := range invalidClauses(n) {
			checkNotNegated(t, n, lits)
		}
	}
	for _, n := range invalidNumbers() {
		checkNotNegated(t, n, nil)
		checkNotNegated(t, n, clause(is(0, 0)))
	}
}

func TestPromise77ClausesStrengthenPropagation(t *testing.T) {
	s := newSource(147)
	seen, smaller := map[bool]int{}, 0
	for range 1500 {
		m := s.provable()
		clauses := s.proof(len(m.Domains), 6)
		domains, alone := impl.PropagateClauses(m, clauses), impl.Propagate(m)
		if !contains(alone, domains) {
			t.Fatalf("PropagateClauses(%+v, %v) = %v, but Propagate = %v", m, clauses, domains, alone)
		}
		for _, x := range solutionsOf(m) {
			if satisfiesAll(clauses, x) && !inDomains(impl.Model{Domains: domains}, x) {
				t.Fatalf("PropagateClauses(%+v, %v) = %v loses %v", m, clauses, domains, x)
			}
		}
		empty := domains[0] == 0
		checkImplied(t, m, clauses, nil, empty)
		seen[empty]++
		if !empty && !slices.Equal(domains, alone) {
			smaller++
		}
	}
	if seen[true] < 300 || seen[false] < 300 || smaller < 100 {
		t.Errorf("the clauses were not balanced: %v, %d with smaller domains", seen, smaller)
	}
}

func TestPropagateClausesByItsDefinition(t *testing.T) {
	s := newSource(148)
	smaller := 0
	for range 400 {
		m := s.provable()
		clauses := s.proof(len(m.Domains), 6)
		want := propagatedWith(m, clauses)
		checkWithClauses(t, m, clauses, want...)
		if want[0] != 0 && !slices.Equal(want, propagated(m)) {
			smaller++
		}
	}
	if smaller < 40 {
		t.Errorf("the clauses made the domains smaller only %d times", smaller)
	}
}

func TestPropagationOfClauses(t *testing.T) {
	free := impl.Model{Domains: []int{63, 63}}
	checkWithClauses(t, free, nil, 63, 63)
	checkWithClauses(t, free, steps(clause(is(0, 3))), 8, 63)
	checkWithClauses(t, free, steps(clause(isNot(0, 3))), 55, 63)
	checkWithClauses(t, free, steps(clause(is(0, 3), is(1, 3))), 63, 63)
	// The empty clause makes all domains empty, as do clauses that contradict each other, or a domain.
	checkWithClauses(t, free, steps(nil), 0, 0)
	checkWithClauses(t, free, steps(clause(is(0, 3)), nil), 0, 0)
	checkWithClauses(t, free, steps(clause(is(0, 3)), clause(isNot(0, 3))), 0, 0)
	checkWithClauses(t, impl.Model{Domains: []int{1, 63}}, steps(clause(isNot(0, 0))), 0, 0)
	// Each clause waits for the one behind it, or for the constraint x1 = x0 + 1.
	chain := steps(clause(is(0, 4), is(1, 2)), clause(is(0, 5), isNot(1, 2)))
	checkWithClauses(t, free, chain, 63, 63)
	checkWithClauses(t, free, append(chain, clause(isNot(0, 5))), 16, 59)
	checkWithClauses(t, free, append(chain, clause(isNot(0, 5)), clause(isNot(0, 4), is(1, 2))), 0, 0)
	next := impl.Model{Domains: []int{63, 63}, Constraints: []impl.Constraint{
		{Kind: impl.Element, Vars: []int{0, 1}, Args: []int{1, 2, 3, 4, 5}},
	}}
	checkWithClauses(t, next, nil, 31, 62)
	checkWithClauses(t, next, steps(clause(is(0, 3))), 8, 16)
	checkWithClauses(t, next, steps(clause(is(0, 1), isNot(1, 1))), 31, 62)
	checkWithClauses(t, next, steps(clause(is(0, 1), isNot(1, 1)), clause(isNot(0, 1))), 28, 56)
	checkWithClauses(t, next, steps(clause(is(0, 4), isNot(1, 3)), clause(is(0, 2), isNot(1, 1)), clause(isNot(0, 4))), 10, 20)
	// Propagation without search does not see that clauses contradict each other.
	checkWithClauses(t, impl.Model{Domains: []int{3, 3}}, steps(
		clause(is(0, 0), is(1, 0)), clause(is(0, 0), is(1, 1)), clause(is(0, 1), is(1, 0)), clause(is(0, 1), is(1, 1)),
	), 3, 3)
}

func TestNumberOfPropagatedClauses(t *testing.T) {
	m := impl.Model{Domains: []int{63, 63}}
	for _, count := range []int{1, 2, 199, 200} {
		list := slices.Repeat(steps(clause(is(0, 1), is(1, 1))), count)
		checkWithClauses(t, m, list, 63, 63)
		list[count-1] = clause(is(1, 2))
		checkWithClauses(t, m, list, map[bool][]int{true: {63, 4}, false: {2, 4}}[count == 1]...)
	}
	for _, count := range []int{201, 202, 1000} {
		checkWithClauses(t, m, slices.Repeat(steps(clause(is(0, 1))), count))
		checkWithClauses(t, m, make([][]impl.Literal, count))
	}
	longest := allLiterals(2)[12:]
	checkWithClauses(t, m, steps(longest), 63, 63)
	checkWithClauses(t, m, steps(allLiterals(2)[:13]))
}

func TestPromise78LearningDoesNotChangeTheSolution(t *testing.T) {
	s := newSource(149)
	seen, fewer, more := map[bool]int{}, 0, 0
	for i := range 900 {
		m := s.hardModel()
		if i%3 == 0 {
			m = s.provable()
		}
		want, wantNodes := impl.Solve(m)
		x, _, nodes := impl.SolveLearning(m)
		if !slices.Equal(x, want) || nodes > wantNodes || nodes < 1 {
			t.Fatalf("SolveLearning(%+v) = %v with %d nodes, but Solve = %v with %d", m, x, nodes, want, wantNodes)
		}
		seen[x != nil]++
		if nodes < wantNodes {
			fewer++
		}
		if nodes > 5 {
			more++
		}
	}
	if seen[true] < 200 || seen[false] < 200 || fewer < 20 || more < 100 {
		t.Errorf("the models were not balanced: %v, %d with fewer nodes, %d with more than 5", seen, fewer, more)
	}
}

func TestPromise79LearnedClausesFormAProof(t *testing.T) {
	s := newSource(150)
	seen := map[bool]int{}
	for i := range 900 {
		m := s.hardModel()
		if i%3 == 0 {
			m = s.provable()
		}
		x, clauses, _ := impl.SolveLearning(m)
		list := solutionsOf(m)
		for _, c := range clauses {
			if slices.ContainsFunc(list, func(x []int) bool { return !clauseHolds(c, x) }) {
				t.Fatalf("SolveLearning(%+v) learns %v, which a solution violates", m, c)
			}
		}
		if x == nil && len(clauses) < 200 {
			checkProof(t, m, clauses, true)
		}
		if len(clauses) > 1 {
			seen[x != nil]++
		}
	}
	if seen[true] < 50 || seen[false] < 50 {
		t.Errorf("more than one clause was learned only %v times", seen)
	}
}

func TestSolveLearningByItsDefinition(t *testing.T) {
	s := newSource(151)
	long, shorter, twice := map[bool]int{}, 0, 0
	for i := range 900 {
		m := s.hardModel()
		if i%3 == 0 {
			m = s.provable()
		}
		l := learning{m: m}
		x := l.search(nil)
		checkLearning(t, m, x, l.nodes, l.clauses...)
		if l.nodes > 5 {
			long[x != nil]++
		}
		distinct := map[string]bool{}
		for _, c := range l.clauses {
			distinct[stepsText(steps(c))] = true
		}
		if len(distinct) < len(l.clauses) {
			twice++
		}
		if len(l.clauses) > 0 && len(l.clauses[0]) < 2 && l.nodes > 5 {
			shorter++
		}
	}
	if long[true] < 20 || long[false] < 20 || twice < 50 || shorter < 10 {
		t.Errorf("the models were too easy: %v, %d, %d", long, twice, shorter)
	}
}

func TestClausesThatAreLearnedTwice(t *testing.T) {
	a, b, c := isNot(0, 0), isNot(0, 1), isNot(1, 0)
	// The second value is refuted with the clause of the first one, whatever the decision is, and so is the root.
	checkLearning(t, pairwise(3, 3), nil, 3, clause(a), nil, nil)
	// A node learns the same clause as its last child if that one does not need its own decision.
	checkLearning(t, pairwise(4, 7), nil, 10,
		clause(a, isNot(1, 1)), clause(a), clause(a),
		clause(b, c), clause(isNot(1, 2)), clause(b),
		clause(c), nil, nil, nil)
	// The root alone fails.
	checkLearning(t, pairwise(2, 4), nil, 1, nil)
	checkLearning(t, impl.Model{Domains: []int{0, 63}}, nil, 1, nil)
}

func TestValuesThatBecomeImpossibleAreVisited(t *testing.T) {
	// Without the value 0 the other two are impossible, but both are visited.
	checkLearning(t, funnel(), nil, 4, clause(isNot(0, 0)), nil, nil, nil)
	// The same below another variable, whose second value leads to a solution.
	m := funnel()
	m.Domains = append([]int{3}, m.Domains...)
	for i := range m.Constraints {
		for j := range m.Constraints[i].Vars {
			m.Constraints[i].Vars[j]++
		}
	}
	m.Constraints[2] = table([]int{0, 2, 3}, []int{0, 0, 1}, []int{0, 1, 0}, []int{1, 0, 0}, []int{1, 1, 1})
	a := isNot(0, 0)
	checkLearning(t, m, []int{1, 0, 0, 0}, 7, clause(a, isNot(1, 0)), clause(a), clause(a), clause(a))
}

func TestLearningInModelsWithSolutions(t *testing.T) {
	checkLearning(t, impl.Model{Domains: []int{4}}, []int{2}, 1)
	checkLearning(t, impl.Model{Domains: []int{63, 63, 63, 63}}, []int{0, 0, 0, 0}, 5)
	checkLearning(t, pairwise(4, 60), []int{2, 3, 4, 5}, 4)
	late := pairwise(3, 3)
	late.Domains[0] = 31
	checkLearning(t, late, []int{2, 0, 1}, 5, clause(isNot(0, 0)), clause(isNot(0, 1)))
}

func TestLearningThatSavesNodes(t *testing.T) {
	m := odd([]int{4, 1, 2}, 23)
	if _, nodes := impl.Solve(m); nodes != 201 {
		t.Errorf("search has %d nodes", nodes)
	}
	// There would be no room for a step per node of the search.
	checkNoRefutation(t, m)
	x, clauses, nodes := impl.SolveLearning(m)
	if x != nil || len(clauses) != 199 || nodes != 199 || !impl.CheckProof(m, clauses) {
		t.Errorf("SolveLearning(%+v) = %v, %d clauses, %d", m, x, len(clauses), nodes)
	}
}

func TestNumberOfLearnedClauses(t *testing.T) {
	for _, example := range []struct {
		m              impl.Model
		nodes, clauses int
	}{
		{odd([]int{0, 2, 1}, 10), 198, 198},
		{odd([]int{4, 1, 2}, 23), 199, 199},
		{odd([]int{1, 1, 4}, 20), 200, 200},
		{odd([]int{2, 3, 3}, 25), 201, 200},
		{odd([]int{4, 4, 1}, 29), 201, 200},
		{odd([]int{2, 2, 3}, 22), 202, 200},
		{odd([]int{0, 0, 0}, 0), 259, 200},
	} {
		x, clauses, nodes := impl.SolveLearning(example.m)
		if x != nil || len(clauses) != example.clauses || nodes != example.nodes {
			t.Errorf("SolveLearning(%+v) = %v, %d clauses, %d, want %d and %d",
				example.m, x, len(clauses), nodes, example.clauses, example.nodes)
		}
		l := learning{m: example.m}
		if l.search(nil) != nil || l.nodes != example.nodes || !sameProof(clauses, l.clauses) {
			t.Errorf("SolveLearning(%+v) does not learn what its definition says", example.m)
		}
		// The last node is the root, which learns the empty clause if there is room for it. Others may have learned it, too.
		last := clauses[len(clauses)-1]
		if impl.CheckProof(example.m, clauses) != (len(last) == 0) || len(last) > 0 && example.nodes <= 200 {
			t.Errorf("CheckProof(%+v, clauses) with %d clauses, the last one %v", example.m, len(clauses), last)
		}
	}
}

func TestLearningRejectsInvalidModels(t *testing.T) {
	for _, m := range invalidModels() {
		n := len(m.Domains)
		for _, lits := range [][]impl.Literal{nil, {}, {is(0, 0)}, {is(0, 0), isNot(0, 0)}, {isNot(n-1, 5)}} {
			checkRefutes(t, m, lits, false)
			checkNogood(t, m, lits, false)
			checkNotMinimal(t, m, lits)
			checkWithClauses(t, m, steps(lits))
		}
		checkWithClauses(t, m, nil)
		checkLearning(t, m, nil, 0)
	}
}

func TestLearningRejectsInvalidClauses(t *testing.T) {
	for n := 1; n <= 4; n++ {
		failed := impl.Model{Domains: make([]int, n)}
		free := impl.Model{Domains: slices.Repeat([]int{63}, n)}
		checkRefutes(t, failed, allLiterals(n)[:12], true)
		checkNogood(t, failed, allLiterals(n)[:12], true)
		checkMinimal(t, failed, allLiterals(n)[:12])
		for _, lits := range invalidClauses(n) {
			for _, m := range []impl.Model{failed, free} {
				checkRefutes(t, m, lits, false)
				checkNogood(t, m, lits, false)
				checkNotMinimal(t, m, lits)
				checkWithClauses(t, m, steps(lits))
				checkWithClauses(t, m, steps(nil, lits))
				checkWithClauses(t, m, steps(clause(is(0, 0)), lits, clause(is(0, 1))))
			}
		}
	}
}

func TestLearningLeavesItsArgumentsAlone(t *testing.T) {
	s := newSource(152)
	for i := range 300 {
		m := roomy(s.provable())
		if i%2 == 0 {
			m = roomy(s.hardModel())
		}
		n := len(m.Domains)
		before := snapshot(m)
		plain := s.clause(n, 0, 4)
		lits := marked(plain)
		var plainSteps, proof [][]impl.Literal
		for _, step := range s.proof(n, 6) {
			plainSteps, proof = append(plainSteps, step), append(proof, marked(step))
		}
		learned := func() [][]impl.Literal {
			_, clauses, _ := impl.SolveLearning(m)
			nogood, _ := impl.MinimalNogood(m, lits)
			negated, _ := impl.NegateAll(n, lits)
			return append(slices.Clone(clauses), nogood, negated)
		}
		want := spoilProof(t, learned())
		if !sameProof(learned(), want) {
			t.Fatal("a result is kept from call to call")
		}
		x, clauses, _ := impl.SolveLearning(m)
		spoil(t, lists(x, impl.PropagateClauses(m, proof), impl.PropagateClauses(m, proof)))
		clear(clauses[:cap(clauses)])
		impl.Refutes(m, lits)
		impl.IsNogood(m, lits)
		if !sameModel(before, snapshot(m)) || !isMarked(lits, plain) {
			t.Fatal("an argument was changed, or shares memory with a result")
		}
		for i, step := range proof {
			if !isMarked(step, plainSteps[i]) {
				t.Fatal("a clause was changed")
			}
		}
	}
}

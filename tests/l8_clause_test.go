package tests

import (
	"slices"
	"testing"

	"loop.example/constraintsolver/impl"
)

// is returns the literal that variable v has the value a.
func is(v int, a int) impl.Literal {
	return impl.Literal{Var: v, Value: a}
}

// isNot returns the literal that variable v does not have the value a.
func isNot(v int, a int) impl.Literal {
	return impl.Literal{Var: v, Value: a, Not: true}
}

// clause returns the clause of the literals.
func clause(literals ...impl.Literal) []impl.Literal {
	return literals
}

// opposite returns the negation of a literal.
func opposite(l impl.Literal) impl.Literal {
	if l.Not {
		return is(l.Var, l.Value)
	}
	return isNot(l.Var, l.Value)
}

// allLiterals lists the literals for n variables in order.
func allLiterals(n int) []impl.Literal {
	var list []impl.Literal
	for _, r := range allRemovals(n) {
		list = append(list, is(r.Var, r.Value), isNot(r.Var, r.Value))
	}
	return list
}

// clauseOf returns the literals for n variables that are wanted, in order.
func clauseOf(n int, isWanted func(l impl.Literal) bool) []impl.Literal {
	return slices.DeleteFunc(allLiterals(n), func(l impl.Literal) bool { return !isWanted(l) })
}

// literalHolds reports whether l is true if its variable has the value a.
func literalHolds(l impl.Literal, a int) bool {
	if l.Not {
		return a != l.Value
	}
	return a == l.Value
}

// clauseHolds is ClauseHolds by its definition.
func clauseHolds(c []impl.Literal, x []int) bool {
	for _, l := range c {
		if literalHolds(l, x[l.Var]) {
			return true
		}
	}
	return false
}

// unitPropagated is UnitPropagate by its definition.
func unitPropagated(c []impl.Literal, domains []int) []int {
	var open []impl.Literal
	for _, l := range c {
		if slices.ContainsFunc(valuesOf(domains[l.Var]), func(a int) bool { return literalHolds(l, a) }) {
			open = append(open, l)
		}
	}
	left := slices.Clone(domains)
	switch len(open) {
	case 0:
		return make([]int, len(domains))
	case 1:
		for _, a := range valuesOf(domains[open[0].Var]) {
			if !literalHolds(open[0], a) {
				left[open[0].Var] &^= 1 << a
			}
		}
	}
	return left
}

// clause returns a valid clause with a number of literals between the given ones for n variables.
func (s source) clause(n int, least int, most int) []impl.Literal {
	chosen := s.Perm(12 * n)[:s.between(least, most)]
	slices.Sort(chosen)
	var c []impl.Literal
	for _, i := range chosen {
		c = append(c, allLiterals(n)[i])
	}
	return c
}

// invalidClauses lists what is no clause for n variables, which are at least 1 and at most 4.
func invalidClauses(n int) [][]impl.Literal {
	all := allLiterals(n)
	lists := [][]impl.Literal{
		{all[0], all[0]}, {all[1], all[1]}, {all[1], all[0]}, {all[2], all[0]}, {all[2], all[1]}, {all[3], all[2]},
		{all[0], all[2], all[1]}, {all[0], all[1], all[1]}, {all[12*n-1], all[0]},
		append(clauseOf(n, func(l impl.Literal) bool { return l.Var == 0 }), is(n-1, 5)),
		slices.Repeat(clause(is(0, 0)), 12), slices.Repeat(clause(is(0, 0)), 1000),
		{is(0, 0), is(n, 0)}, {is(-1, 0), is(0, 0)}, {is(0, -1), is(0, 0)}, {is(0, 0), is(0, 6)}, {is(0, 0), isNot(0, 6), is(n, 0)},
	}
	for _, r := range invalidRemovals(n) {
		lists = append(lists, clause(is(r.Var, r.Value)), clause(isNot(r.Var, r.Value)))
	}
	if n > 1 {
		lists = append(lists, clause(is(1, 0), is(0, 0)), clause(is(1, 0), is(0, 5)), clause(isNot(1, 0), isNot(0, 5)), all[:13], all[11:24])
	}
	return lists
}

// checkValid reports a clause that ValidClause judges wrongly.
func checkValid(t *testing.T, c []impl.Literal, n int, want bool) {
	t.Helper()
	if impl.ValidClause(c, n) != want {
		t.Errorf("ValidClause(%v, %d) = %v", c, n, !want)
	}
}

// checkUnit reports a clause with which UnitPropagate does not lead to the wanted domains.
func checkUnit(t *testing.T, c []impl.Literal, domains []int, want ...int) {
	t.Helper()
	if got := impl.UnitPropagate(c, domains); !slices.Equal(got, want) {
		t.Errorf("UnitPropagate(%v, %v) = %v, want %v", c, domains, got, want)
	}
}

// checkResolvent reports clauses whose resolvent is not the wanted one.
func checkResolvent(t *testing.T, n int, a []impl.Literal, b []impl.Literal, l impl.Literal, want ...impl.Literal) {
	t.Helper()
	if got, ok := impl.Resolve(n, a, b, l); !ok || !slices.Equal(got, want) {
		t.Errorf("Resolve(%d, %v, %v, %v) = %v, %v, want %v", n, a, b, l, got, ok, want)
	}
}

// checkNoResolvent reports clauses that are resolved although they should not be.
func checkNoResolvent(t *testing.T, n int, a []impl.Literal, b []impl.Literal, l impl.Literal) {
	t.Helper()
	if got, ok := impl.Resolve(n, a, b, l); ok || len(got) != 0 {
		t.Errorf("Resolve(%d, %v, %v, %v) = %v, %v", n, a, b, l, got, ok)
	}
}

// checkSubsumes reports clauses that Subsumes judges wrongly.
func checkSubsumes(t *testing.T, n int, a []impl.Literal, b []impl.Literal, want bool) {
	t.Helper()
	if impl.Subsumes(n, a, b) != want {
		t.Errorf("Subsumes(%d, %v, %v) = %v", n, a, b, !want)
	}
}

func TestClausesOfOneAndTwoLiterals(t *testing.T) {
	for n := 1; n <= 4; n++ {
		checkValid(t, nil, n, true)
		checkValid(t, clause(), n, true)
		for i, a := range allLiterals(4) {
			checkValid(t, clause(a), n, a.Var < n)
			for j, b := range allLiterals(4) {
				checkValid(t, clause(a, b), n, i < j && b.Var < n)
			}
		}
	}
}

func TestLongestClauses(t *testing.T) {
	if impl.MaxLiterals != 12 {
		t.Errorf("MaxLiterals = %d", impl.MaxLiterals)
	}
	s := newSource(39)
	for n := 1; n <= 4; n++ {
		all := allLiterals(n)
		for start := 0; start+12 <= len(all); start++ {
			checkValid(t, all[start:start+12], n, true)
			checkValid(t, all[start:], n, len(all)-start == 12)
			checkValid(t, all[start:min(start+13, len(all))], n, start+12 == len(all))
		}
	}
	for range 200 {
		n := s.between(1, 4)
		c := s.clause(n, 0, 12)
		checkValid(t, c, n, true)
		if len(c) > 1 {
			i := s.IntN(len(c) - 1)
			c[i], c[i+1] = c[i+1], c[i]
			checkValid(t, c, n, false)
		}
	}
}

func TestClausesThatAreNone(t *testing.T) {
	for n := 1; n <= 4; n++ {
		for _, c := range invalidClauses(n) {
			checkValid(t, c, n, false)
		}
	}
	for _, n := range invalidNumbers() {
		checkValid(t, nil, n, false)
		checkValid(t, clause(is(0, 0)), n, false)
		checkValid(t, clause(isNot(0, 5)), n, false)
		checkValid(t, clause(is(n-1, 0)), n, false)
	}
}

func TestPromise28ClauseHoldsIfOneOfItsLiteralsDoes(t *testing.T) {
	s := newSource(40)
	seen := map[bool]int{}
	for range 3000 {
		n := s.between(1, 4)
		c, x := s.clause(n, 0, 6), s.list(n, 0, 5)
		want := clauseHolds(c, x)
		seen[want]++
		if impl.ClauseHolds(c, x) != want {
			t.Fatalf("ClauseHolds(%v, %v) = %v", c, x, !want)
		}
	}
	if seen[true] < 500 || seen[false] < 500 {
		t.Errorf("the clauses were not balanced: %v", seen)
	}
}

func TestPromise28SingleLiteralsAndEmptyClauses(t *testing.T) {
	for n := 1; n <= 3; n++ {
		for _, x := range allAssignments(n) {
			if impl.ClauseHolds(nil, x) || impl.ClauseHolds(clause(), x) {
				t.Fatalf("the empty clause holds at %v", x)
			}
			for _, l := range allLiterals(n) {
				if impl.ClauseHolds(clause(l), x) != literalHolds(l, x[l.Var]) {
					t.Fatalf("ClauseHolds([%v], %v) = %v", l, x, !literalHolds(l, x[l.Var]))
				}
				if !l.Not && !impl.ClauseHolds(clause(l, opposite(l)), x) {
					t.Fatalf("a literal or its negation does not hold at %v", x)
				}
			}
		}
	}
}

func TestClauseHoldsRejectsInvalidArguments(t *testing.T) {
	for n := 1; n <= 4; n++ {
		for _, c := range invalidClauses(n) {
			for _, x := range [][]int{make([]int, n), slices.Repeat([]int{5}, n), slices.Repeat([]int{1}, n)} {
				if impl.ClauseHolds(c, x) {
					t.Errorf("ClauseHolds(%v, %v) of an invalid clause", c, x)
				}
			}
		}
		for i := range n {
			for _, v := range []int{-1, 6, 7, 1 << 32, smallestInt, largestInt} {
				x := make([]int, n)
				x[i] = v
				// Some literal is true of the other variables, or of the value that is none.
				if impl.ClauseHolds(clause(is(0, 0), isNot(0, 0)), x) || impl.ClauseHolds(clause(isNot(n-1, 3)), x) {
					t.Errorf("a clause holds at %v", x)
				}
			}
		}
	}
	for _, x := range [][]int{nil, {}, {0, 0, 0, 0, 0}, make([]int, 100)} {
		if impl.ClauseHolds(clause(is(0, 0)), x) || impl.ClauseHolds(clause(isNot(0, 1)), x) || impl.ClauseHolds(nil, x) {
			t.Errorf("a clause holds at %v", x)
		}
	}
}

func TestPromise29UnitPropagationLosesNoAssignmentThatSatisfiesTheClause(t *testing.T) {
	s := newSource(41)
	outcomes := map[string]int{}
	for range 2000 {
		n := s.between(1, 4)
		c, domains := s.clause(n, 0, 5), s.fewValues(n)
		left := impl.UnitPropagate(c, domains)
		if len(left) != n || !contains(domains, left) {
			t.Fatalf("UnitPropagate(%v, %v) = %v", c, domains, left)
		}
		switch {
		case slices.Equal(left, domains):
			outcomes["unchanged"]++
		case slices.Equal(left, make([]int, n)):
			outcomes["failed"]++
		default:
			outcomes["restricted"]++
		}
		for _, x := range allAssignments(n) {
			if inDomains(impl.Model{Domains: domains}, x) && clauseHolds(c, x) && !inDomains(impl.Model{Domains: left}, x) {
				t.Fatalf("UnitPropagate(%v, %v) = %v loses %v", c, domains, left, x)
			}
		}
	}
	for _, outcome := range []string{"unchanged", "failed", "restricted"} {
		if outcomes[outcome] < 100 {
			t.Errorf("the outcomes were not balanced: %v", outcomes)
		}
	}
}

func TestUnitPropagateByItsDefinition(t *testing.T) {
	s := newSource(42)
	for range 5000 {
		n := s.between(1, 4)
		c, domains := s.clause(n, 0, 12), s.fewValues(n)
		if s.IntN(2) == 0 {
			c = s.clause(n, 0, 3)
		}
		checkUnit(t, c, domains, unitPropagated(c, domains)...)
	}
	// Every domain of one variable, with every clause of up to two literals.
	for d := range 64 {
		for i, a := range allLiterals(1) {
			checkUnit(t, clause(a), []int{d}, unitPropagated(clause(a), []int{d})...)
			for _, b := range allLiterals(1)[i+1:] {
				checkUnit(t, clause(a, b), []int{d}, unitPropagated(clause(a, b), []int{d})...)
			}
		}
	}
}

func TestUnitPropagation(t *testing.T) {
	// The empty clause is false.
	checkUnit(t, nil, []int{63, 5}, 0, 0)
	checkUnit(t, clause(), []int{1}, 0)
	// The only literal is never ignored.
	checkUnit(t, clause(is(1, 2)), []int{63, 63}, 63, 4)
	checkUnit(t, clause(isNot(1, 2)), []int{63, 63}, 63, 59)
	checkUnit(t, clause(isNot(1, 2)), []int{63, 4}, 0, 0)
	checkUnit(t, clause(is(1, 2)), []int{63, 59}, 0, 0)
	// The one that is left may be anywhere in the clause.
	long := clause(is(0, 1), isNot(1, 0), is(2, 3), is(3, 5))
	checkUnit(t, long, []int{63, 1, 1, 1}, 2, 1, 1, 1)
	checkUnit(t, long, []int{1, 63, 1, 1}, 1, 62, 1, 1)
	checkUnit(t, long, []int{1, 1, 63, 1}, 1, 1, 8, 1)
	checkUnit(t, long, []int{1, 1, 1, 63}, 1, 1, 1, 32)
	checkUnit(t, long, []int{1, 1, 1, 1}, 0, 0, 0, 0)
	checkUnit(t, long, []int{1, 1, 9, 33}, 1, 1, 9, 33)
	checkUnit(t, long, []int{3, 1, 1, 33}, 3, 1, 1, 33)
	checkUnit(t, long, []int{3, 3, 1, 1}, 3, 3, 1, 1)
	// Nothing is left to restrict.
	checkUnit(t, long, []int{2, 1, 1, 1}, 2, 1, 1, 1)
	// Two literals of one variable that are both possible leave its other values alone.
	checkUnit(t, clause(is(0, 1), is(0, 2)), []int{63}, 63)
	checkUnit(t, clause(is(0, 1), is(0, 2)), []int{62, 63}, 62, 63)
	checkUnit(t, clause(is(0, 1), is(0, 2)), []int{58}, 2)
	checkUnit(t, clause(isNot(0, 1), isNot(0, 2)), []int{6}, 6)
	checkUnit(t, clause(isNot(0, 1), isNot(0, 2)), []int{2}, 2)
}

func TestUnitPropagationOfALiteralAndItsNegation(t *testing.T) {
	both := clause(is(0, 1), isNot(0, 1))
	for d := 1; d < 64; d++ {
		checkUnit(t, both, []int{d}, d)
		checkUnit(t, both, []int{d, 0}, d, 0)
	}
	checkUnit(t, both, []int{0}, 0)
	// No value is left that makes one of them true.
	checkUnit(t, both, []int{0, 63}, 0, 0)
	checkUnit(t, clause(is(0, 1), isNot(0, 1), is(1, 2)), []int{0, 63}, 0, 4)
	checkUnit(t, clause(is(0, 1), isNot(0, 1), is(1, 2)), []int{2, 63}, 2, 63)
	checkUnit(t, clause(is(0, 1), isNot(0, 1), is(1, 2)), []int{2, 1}, 2, 1)
}

func TestUnitPropagationOfEmptyDomains(t *testing.T) {
	checkUnit(t, clause(is(0, 0), isNot(0, 1)), []int{0, 63}, 0, 0)
	checkUnit(t, clause(is(1, 0)), []int{0, 63}, 0, 1)
	checkUnit(t, clause(is(1, 0), is(2, 0)), []int{0, 63, 63}, 0, 63, 63)
	checkUnit(t, clause(isNot(1, 0), is(2, 0)), []int{63, 1, 62}, 0, 0, 0)
	checkUnit(t, clause(is(3, 0)), []int{0, 0, 0, 0}, 0, 0, 0, 0)
}

func TestUnitPropagateRejectsInvalidArguments(t *testing.T) {
	for n := 1; n <= 4; n++ {
		for _, c := range invalidClauses(n) {
			for _, d := range []int{0, 1, 32, 63} {
				checkUnit(t, c, slices.Repeat([]int{d}, n))
			}
		}
	}
	for _, domains := range invalidDomainLists() {
		for _, c := range [][]impl.Literal{nil, clause(is(0, 0)), clause(isNot(0, 0))} {
			checkUnit(t, c, domains)
		}
	}
}

func TestPromise30ResolutionIsSound(t *testing.T) {
	s := newSource(43)
	seen := map[bool]int{}
	for range 1500 {
		n := s.between(1, 4)
		a, b, l := s.clause(n, 0, 11), s.clause(n, 0, 11), allLiterals(n)[s.IntN(12*n)]
		a = clauseOf(n, func(other impl.Literal) bool { return other == l || slices.Contains(a, other) })
		b = clauseOf(n, func(other impl.Literal) bool { return other == opposite(l) || slices.Contains(b, other) })
		want := clauseOf(n, func(other impl.Literal) bool {
			return other != l && slices.Contains(a, other) || other != opposite(l) && slices.Contains(b, other)
		})
		seen[len(want) <= 12]++
		if len(want) > 12 {
			checkNoResolvent(t, n, a, b, l)
			continue
		}
		checkResolvent(t, n, a, b, l, want...)
		resolvent, _ := impl.Resolve(n, a, b, l)
		checkValid(t, resolvent, n, true)
		for _, x := range allAssignments(n) {
			if impl.ClauseHolds(a, x) && impl.ClauseHolds(b, x) && !impl.ClauseHolds(resolvent, x) {
				t.Fatalf("Resolve(%d, %v, %v, %v) = %v is false at %v", n, a, b, l, resolvent, x)
			}
		}
	}
	if seen[true] < 200 || seen[false] < 200 {
		t.Errorf("the resolvents were not balanced: %v", seen)
	}
}

func TestResolvents(t *testing.T) {
	l := is(1, 2)
	checkResolvent(t, 2, clause(l), clause(isNot(1, 2)), l)
	checkResolvent(t, 2, clause(isNot(1, 2)), clause(l), isNot(1, 2))
	checkResolvent(t, 2, clause(is(0, 0), l), clause(isNot(1, 2)), l, is(0, 0))
	checkResolvent(t, 2, clause(l), clause(isNot(0, 0), isNot(1, 2)), l, isNot(0, 0))
	// What both clauses have occurs once, and the literals alternate.
	checkResolvent(t, 2, clause(is(0, 0), is(0, 3), l), clause(is(0, 0), is(0, 1), isNot(1, 2), is(1, 5)), l, is(0, 0), is(0, 1), is(0, 3), is(1, 5))
	// A literal and its negation, one from each clause, are both kept.
	checkResolvent(t, 2, clause(is(0, 0), l), clause(isNot(0, 0), isNot(1, 2)), l, is(0, 0), isNot(0, 0))
	checkResolvent(t, 2, clause(isNot(0, 0), l), clause(is(0, 0), isNot(1, 2)), l, is(0, 0), isNot(0, 0))
	// The wrong clause, the wrong literal.
	checkNoResolvent(t, 2, clause(isNot(1, 2)), clause(l), l)
	checkNoResolvent(t, 2, clause(l), clause(l), l)
	checkNoResolvent(t, 2, clause(isNot(1, 2)), clause(isNot(1, 2)), l)
	checkNoResolvent(t, 2, clause(l), clause(isNot(1, 3)), l)
	checkNoResolvent(t, 2, clause(l), clause(isNot(1, 2)), is(1, 3))
	checkNoResolvent(t, 2, clause(l), clause(isNot(0, 2)), l)
	checkNoResolvent(t, 2, clause(l), nil, l)
	checkNoResolvent(t, 2, nil, clause(isNot(1, 2)), l)
	checkNoResolvent(t, 2, nil, nil, l)
}

func TestResolutionOfALiteralAndItsNegation(t *testing.T) {
	l, k := is(1, 2), isNot(1, 2)
	// Only l is taken from a, and only its negation from b, so that the other one is kept.
	checkResolvent(t, 2, clause(l, k), clause(k), l, k)
	checkResolvent(t, 2, clause(l), clause(l, k), l, l)
	checkResolvent(t, 2, clause(l, k), clause(l, k), l, l, k)
	checkResolvent(t, 2, clause(l, k), clause(l, k), k, l, k)
	checkResolvent(t, 2, clause(l, k), clause(l), k, l)
	checkResolvent(t, 2, clause(is(0, 0), l, k), clause(isNot(0, 0), k, is(1, 3)), l, is(0, 0), isNot(0, 0), k, is(1, 3))
	checkNoResolvent(t, 2, clause(k), clause(l, k), l)
	checkNoResolvent(t, 2, clause(l, k), clause(l), l)
}

func TestLongestResolvents(t *testing.T) {
	l := is(0, 0)
	rest := allLiterals(4)[2:]
	first, second := append(clause(l), rest[:6]...), append(clause(isNot(0, 0)), rest[6:12]...)
	checkResolvent(t, 4, first, second, l, rest[:12]...)
	checkNoResolvent(t, 4, first, append(clause(isNot(0, 0)), rest[6:13]...), l)
	checkNoResolvent(t, 4, append(clause(l), rest[:11]...), append(clause(isNot(0, 0)), rest[11:22]...), l)
	// The literals that both have count once.
	checkResolvent(t, 4, append(clause(l), rest[:11]...), append(clause(isNot(0, 0)), rest[1:12]...), l, rest[:12]...)
	checkNoResolvent(t, 4, append(clause(l), rest[:11]...), append(clause(isNot(0, 0)), rest[2:13]...), l)
	// Clauses with too many literals are invalid, however short the resolvent would be.
	checkNoResolvent(t, 4, append(clause(l), rest[:12]...), clause(isNot(0, 0)), l)
	checkNoResolvent(t, 4, clause(l), append(clause(isNot(0, 0)), rest[:12]...), l)
}

func TestPromise31SubsumptionIsContainment(t *testing.T) {
	s := newSource(44)
	seen := map[bool]int{}
	for range 1500 {
		n := s.between(1, 4)
		a, b := s.clause(n, 0, 3), s.clause(n, 0, 12)
		if s.IntN(2) == 0 {
			a = slices.DeleteFunc(slices.Clone(b), func(impl.Literal) bool { return s.IntN(2) == 0 })
		}
		want := len(clauseOf(n, func(l impl.Literal) bool { return slices.Contains(a, l) && !slices.Contains(b, l) })) == 0
		seen[want]++
		checkSubsumes(t, n, a, b, want)
		checkSubsumes(t, n, a, a, true)
		checkSubsumes(t, n, nil, a, true)
		checkSubsumes(t, n, a, nil, len(a) == 0)
		if !want {
			continue
		}
		for _, x := range allAssignments(n) {
			if impl.ClauseHolds(a, x) && !impl.ClauseHolds(b, x) {
				t.Fatalf("%v subsumes %v, but is true at %v alone", a, b, x)
			}
		}
	}
	if seen[true] < 300 || seen[false] < 300 {
		t.Errorf("the clauses were not balanced: %v", seen)
	}
}

func TestSubsumption(t *testing.T) {
	// What follows without being contained is not subsumed.
	checkSubsumes(t, 1, clause(is(0, 1)), clause(isNot(0, 2)), false)
	checkSubsumes(t, 1, clause(is(0, 1)), clause(is(0, 2), isNot(0, 2)), false)
	checkSubsumes(t, 1, clause(is(0, 2)), clause(is(0, 2), isNot(0, 2)), true)
	checkSubsumes(t, 1, clause(isNot(0, 2)), clause(is(0, 2), isNot(0, 2)), true)
	checkSubsumes(t, 1, clause(is(0, 2), isNot(0, 2)), clause(isNot(0, 2)), false)
	checkSubsumes(t, 2, clause(is(0, 2)), clause(is(1, 2)), false)
	checkSubsumes(t, 2, clause(is(0, 2)), clause(isNot(0, 2)), false)
	checkSubsumes(t, 4, allLiterals(4)[30:42], allLiterals(4)[30:42], true)
	checkSubsumes(t, 4, allLiterals(4)[30:41], allLiterals(4)[30:42], true)
	checkSubsumes(t, 4, allLiterals(4)[30:42], allLiterals(4)[30:41], false)
}

func TestResolutionAndSubsumptionRejectInvalidClauses(t *testing.T) {
	for n := 1; n <= 4; n++ {
		for _, c := range invalidClauses(n) {
			checkSubsumes(t, n, c, c, false)
			checkSubsumes(t, n, nil, c, false)
			checkSubsumes(t, n, c, clause(is(0, 0)), false)
			checkSubsumes(t, n, clause(is(0, 0)), c, false)
			for _, l := range c[:min(len(c), 3)] {
				checkNoResolvent(t, n, c, clause(opposite(l)), l)
				checkNoResolvent(t, n, clause(opposite(l)), c, opposite(l))
				checkNoResolvent(t, n, c, c, l)
			}
		}
		checkNoResolvent(t, n, clause(is(n, 0)), clause(isNot(n, 0)), is(n, 0))
		checkResolvent(t, n, clause(is(n-1, 0)), clause(isNot(n-1, 0)), is(n-1, 0))
	}
	for _, n := range invalidNumbers() {
		checkSubsumes(t, n, nil, nil, false)
		checkSubsumes(t, n, clause(is(0, 0)), clause(is(0, 0)), false)
		checkNoResolvent(t, n, clause(is(0, 0)), clause(isNot(0, 0)), is(0, 0))
		checkNoResolvent(t, n, nil, nil, impl.Literal{})
	}
}

// marked returns a copy of the clause with marks in its spare memory.
func marked(c []impl.Literal) []impl.Literal {
	return slices.Concat(c, slices.Repeat(clause(is(99, 99)), 14))[:len(c)]
}

// spoilClause overwrites a clause, with its spare memory.
func spoilClause(c []impl.Literal) {
	c = c[:cap(c)]
	for i := range c {
		c[i] = is(-7, -7)
	}
}

// isMarked reports whether the clause, with its spare memory, is as marked returned it for c.
func isMarked(changed []impl.Literal, c []impl.Literal) bool {
	all := marked(c)
	return slices.Equal(changed[:cap(changed)][:len(c)+14], all[:len(c)+14])
}

func TestClausesLeaveTheirArgumentsAlone(t *testing.T) {
	s := newSource(45)
	for range 500 {
		n := s.between(1, 4)
		l := is(s.IntN(n), s.between(0, 5))
		plainA, plainB := s.clause(n, 0, 4), s.clause(n, 0, 4)
		if s.IntN(4) > 0 {
			plainA = clauseOf(n, func(other impl.Literal) bool { return other == l || slices.Contains(plainA, other) })
			plainB = clauseOf(n, func(other impl.Literal) bool { return other == opposite(l) || slices.Contains(plainB, other) })
		}
		a, b := marked(plainA), marked(plainB)
		m := roomy(impl.Model{Domains: s.fewValues(n)})
		before := snapshot(m)
		first, _ := impl.Resolve(n, a, b, l)
		want := slices.Clone(first)
		spoilClause(first)
		if again, _ := impl.Resolve(n, a, b, l); !slices.Equal(again, want) {
			t.Fatal("a result is kept from call to call")
		}
		spoil(t, [][]int{impl.UnitPropagate(a, m.Domains), impl.UnitPropagate(b, m.Domains)})
		impl.ValidClause(a, n)
		impl.ClauseHolds(b, s.list(n, 0, 5))
		impl.Subsumes(n, a, b)
		if !isMarked(a, plainA) || !isMarked(b, plainB) || !sameModel(before, snapshot(m)) {
			t.Fatal("an argument was changed, or shares memory with a result")
		}
	}
}

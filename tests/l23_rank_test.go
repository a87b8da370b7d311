package tests

import (
	"slices"
	"testing"

	"loop.example/constraintsolver/impl"
)

// isIn reports whether x is in the list.
func isIn(list [][]int, x []int) bool {
	return slices.ContainsFunc(list, func(y []int) bool { return slices.Equal(x, y) })
}

// rankIn is RankOf by its definition, from all solutions.
func rankIn(list [][]int, x []int) int {
	if !isIn(list, x) {
		return -1
	}
	rank := 0
	for _, y := range list {
		if slices.Compare(y, x) < 0 {
			rank++
		}
	}
	return rank
}

// countIn is CountWith by its definition, from all solutions.
func countIn(list [][]int, lits []impl.Literal) int {
	n := 0
	for _, x := range list {
		if allTrue(lits, x) {
			n++
		}
	}
	return n
}

// marginalsIn is Marginals by its definition for n variables, from all solutions.
func marginalsIn(list [][]int, n int) [][]int {
	rows := make([][]int, n)
	for i := range rows {
		for v := range 6 {
			rows[i] = append(rows[i], countIn(list, clause(is(i, v))))
		}
	}
	return rows
}

// farthestIn is FarthestFrom by its definition, from all solutions, with the number of solutions that are as far.
func farthestIn(list [][]int, x []int) ([]int, int) {
	return firstLeast(list, func(y []int) int { return -differences(x, y) })
}

// totalDistance returns the sum of the distances from x to all of the list.
func totalDistance(list [][]int, x []int) int {
	sum := 0
	for _, y := range list {
		sum += differences(x, y)
	}
	return sum
}

// medianIn is MedianSolution by its definition, from all solutions, with the number of solutions that are as good.
func medianIn(list [][]int) ([]int, int) {
	return firstLeast(list, func(x []int) int { return totalDistance(list, x) })
}

// entailsIn is Entails by its definition, for models with the same number of variables.
func entailsIn(a [][]int, b [][]int) bool {
	return !slices.ContainsFunc(a, func(x []int) bool { return !isIn(b, x) })
}

// relative returns a model with the same number of variables that often has some of the solutions of m, or more of them.
func (s source) relative(m impl.Model) impl.Model {
	other := cloneModel(m)
	for range s.between(1, 2) {
		switch i := s.IntN(len(m.Domains)); s.IntN(4) {
		case 0:
			other.Domains[i] |= 1 << s.IntN(6)
		case 1:
			other.Domains[i] &^= 1 << s.IntN(6)
		case 2:
			if k := len(other.Constraints); k > 0 {
				k = s.IntN(k)
				other.Constraints = slices.Delete(other.Constraints, k, k+1)
			}
		default:
			if len(other.Constraints) < 6 {
				other.Constraints = append(other.Constraints, s.constraint(len(m.Domains)))
			}
		}
	}
	return other
}

// unsolvable lists models without solutions, each for another reason.
func unsolvable() []impl.Model {
	return []impl.Model{
		{Domains: []int{0}},
		{Domains: []int{63, 0}},
		{Domains: []int{0, 0, 0, 0}},
		{Domains: []int{63}, Constraints: []impl.Constraint{never()}},
		{Domains: []int{3, 12}, Constraints: []impl.Constraint{table([]int{0, 1}, []int{1, 1}, []int{2, 2})}},
		pairwise(3, 3),
		pairwise(4, 7),
	}
}

// extremeNumbers lists numbers far from every index.
func extremeNumbers() []int {
	return []int{-1, -2, -1 << 32, 1 << 32, 1<<32 + 1, smallestInt, smallestInt + 1, largestInt}
}

// checkRankOf reports an assignment whose RankOf is not the wanted one.
func checkRankOf(t *testing.T, m impl.Model, x []int, want int) {
	t.Helper()
	if got := impl.RankOf(m, x); got != want {
		t.Errorf("RankOf(%+v, %v) = %d, want %d", m, x, got, want)
	}
}

// checkSolutionAt reports a rank for which SolutionAt does not return the wanted solution, or succeeds if none is wanted.
func checkSolutionAt(t *testing.T, m impl.Model, rank int, want []int) {
	t.Helper()
	if x, ok := impl.SolutionAt(m, rank); !slices.Equal(x, want) || ok != (want != nil) {
		t.Errorf("SolutionAt(%+v, %d) = %v, %v, want %v", m, rank, x, ok, want)
	}
}

// checkCountWith reports literals with which CountWith does not return the wanted number.
func checkCountWith(t *testing.T, m impl.Model, lits []impl.Literal, want int) {
	t.Helper()
	if got := impl.CountWith(m, lits); got != want {
		t.Errorf("CountWith(%+v, %v) = %d, want %d", m, lits, got, want)
	}
}

// checkMarginals reports a model of which Marginals are not the wanted rows.
func checkMarginals(t *testing.T, m impl.Model, want ...[]int) {
	t.Helper()
	if got := impl.Marginals(m); !sameLists(got, want) {
		t.Errorf("Marginals(%+v) = %v, want %v", m, got, want)
	}
}

// checkEntails reports models that Entails judges wrongly.
func checkEntails(t *testing.T, a impl.Model, b impl.Model, want bool) {
	t.Helper()
	if impl.Entails(a, b) != want {
		t.Errorf("Entails(%+v, %+v) = %v", a, b, !want)
	}
}

// checkFarthest reports a model for which FarthestFrom does not return the wanted solution, or one where there is none.
func checkFarthest(t *testing.T, m impl.Model, x []int, want []int) {
	t.Helper()
	if y, ok := impl.FarthestFrom(m, x); !slices.Equal(y, want) || ok != (want != nil) {
		t.Errorf("FarthestFrom(%+v, %v) = %v, %v, want %v", m, x, y, ok, want)
	}
}

// checkMedian reports a model for which MedianSolution does not return the wanted solution, or one where there is none.
func checkMedian(t *testing.T, m impl.Model, want []int) {
	t.Helper()
	if x, ok := impl.MedianSolution(m); !slices.Equal(x, want) || ok != (want != nil) {
		t.Errorf("MedianSolution(%+v) = %v, %v, want %v", m, x, ok, want)
	}
}

func TestPromise103RanksNumberTheSolutions(t *testing.T) {
	s := newSource(200)
	seen := map[bool]int{}
	for range 500 {
		m := s.someModel()
		count := impl.CountSolutions(m)
		seen[count > 0]++
		ranks := append(extremeNumbers(), 0, 1, count-1, count, count+1, s.IntN(count+1), s.IntN(count+1))
		for _, rank := range ranks {
			x, ok := impl.SolutionAt(m, rank)
			if ok != (0 <= rank && rank < count) || ok != (x != nil) {
				t.Fatalf("SolutionAt(%+v, %d) = %v, %v, but there are %d solutions", m, rank, x, ok, count)
			}
			if ok && impl.RankOf(m, x) != rank {
				t.Fatalf("RankOf(%+v, %v) = %d, want %d", m, x, impl.RankOf(m, x), rank)
			}
		}
	}
	if seen[true] < 150 || seen[false] < 100 {
		t.Errorf("the models were not balanced: %v", seen)
	}
}

func TestPromise104RanksFollowTheLexicographicOrder(t *testing.T) {
	s := newSource(201)
	for range 300 {
		m, list := s.solved()
		x := list[s.IntN(len(list))]
		rank := impl.RankOf(m, x)
		if y, ok := impl.SolutionAt(m, rank); !ok || !slices.Equal(x, y) {
			t.Fatalf("SolutionAt(%+v, %d) = %v, %v, want %v", m, rank, y, ok, x)
		}
		if next, ok := impl.NextSolution(m, x); ok && impl.RankOf(m, next) != rank+1 {
			t.Fatalf("RankOf(%+v, %v) = %d, but that of %v is %d", m, next, impl.RankOf(m, next), x, rank)
		}
		for range 5 {
			y := s.list(len(m.Domains), 0, 5)
			if !isIn(list, y) && impl.RankOf(m, y) != -1 {
				t.Fatalf("RankOf(%+v, %v) = %d, but it is no solution", m, y, impl.RankOf(m, y))
			}
		}
	}
}

func TestRanksByTheirDefinition(t *testing.T) {
	s := newSource(202)
	for range 150 {
		m, list := s.solved()
		for _, x := range s.someAssignments(len(m.Domains), list) {
			checkRankOf(t, m, x, rankIn(list, x))
		}
		for range 5 {
			rank := s.IntN(len(list))
			checkSolutionAt(t, m, rank, list[rank])
		}
	}
}

func TestRanks(t *testing.T) {
	m := pairwise(2, 7)
	for rank, x := range lists([]int{0, 1}, []int{0, 2}, []int{1, 0}, []int{1, 2}, []int{2, 0}, []int{2, 1}) {
		checkRankOf(t, m, x, rank)
		checkSolutionAt(t, m, rank, x)
	}
	checkSolutionAt(t, m, 6, nil)
	checkSolutionAt(t, m, -1, nil)
	// Violated constraints, and values that are not in the domains.
	for _, x := range lists([]int{0, 0}, []int{2, 2}, []int{0, 3}, []int{5, 0}) {
		checkRankOf(t, m, x, -1)
	}
	checkSolutionAt(t, impl.Model{Domains: []int{32}}, 0, []int{5})
	checkRankOf(t, impl.Model{Domains: []int{33}}, []int{5}, 1)
	// The model with the most solutions.
	m = full(63, 63, 63, 63)
	checkRankOf(t, m, []int{0, 0, 0, 0}, 0)
	checkRankOf(t, m, []int{1, 2, 3, 4}, 216+2*36+3*6+4)
	checkRankOf(t, m, []int{5, 5, 5, 5}, 1295)
	checkSolutionAt(t, m, 216, []int{1, 0, 0, 0})
	checkSolutionAt(t, m, 1295, []int{5, 5, 5, 5})
	checkSolutionAt(t, m, 1296, nil)
}

func TestModelsWithoutSolutionsHaveNoRanks(t *testing.T) {
	for _, m := range unsolvable() {
		n := len(m.Domains)
		for _, x := range allAssignments(n)[:6] {
			checkRankOf(t, m, x, -1)
			checkFarthest(t, m, x, nil)
		}
		for _, rank := range []int{-1, 0, 1, 2} {
			checkSolutionAt(t, m, rank, nil)
		}
		checkMedian(t, m, nil)
		checkMarginals(t, m, slices.Repeat(lists(make([]int, 6)), n)...)
		checkCountWith(t, m, nil, 0)
		checkCountWith(t, m, clause(is(0, 0)), 0)
		checkCountWith(t, m, clause(isNot(0, 0)), 0)
	}
}

func TestPromise105CountingWithALiteralAndItsNegationAddsUp(t *testing.T) {
	s := newSource(204)
	fewer := 0
	for range 500 {
		m := s.someModel()
		l := s.literal(len(m.Domains))
		with, without := impl.CountWith(m, clause(l)), impl.CountWith(m, clause(opposite(l)))
		if all := impl.CountSolutions(m); with < 0 || without < 0 || with+without != all || impl.CountWith(m, nil) != all {
			t.Fatalf("CountWith(%+v, %v) = %d, and %d with the negation, but there are %d solutions", m, l, with, without, all)
		}
		lits := s.conjunction(len(m.Domains))
		if len(lits) == 0 {
			continue
		}
		i := s.IntN(len(lits))
		less := slices.Delete(slices.Clone(lits), i, i+1)
		if impl.CountWith(m, lits) > impl.CountWith(m, less) {
			t.Fatalf("CountWith(%+v, %v) = %d, but without literal %d it is %d", m, lits, impl.CountWith(m, lits), i, impl.CountWith(m, less))
		}
		if impl.CountWith(m, lits) < impl.CountWith(m, less) {
			fewer++
		}
	}
	if fewer < 50 {
		t.Errorf("only %d literals excluded a solution", fewer)
	}
}

func TestCountWithByItsDefinition(t *testing.T) {
	s := newSource(205)
	seen := map[bool]int{}
	for range 300 {
		m, list := s.solved()
		for i := range 4 {
			lits := s.conjunction(len(m.Domains))
			if i%2 == 0 {
				lits = s.clause(len(m.Domains), 1, 2)
			}
			want := countIn(list, lits)
			checkCountWith(t, m, lits, want)
			seen[0 < want && want < len(list)]++
		}
	}
	if seen[true] < 200 {
		t.Errorf("the conjunctions were not balanced: %v", seen)
	}
}

func TestCountsWithLiterals(t *testing.T) {
	m := pairwise(2, 7)
	checkCountWith(t, m, nil, 6)
	checkCountWith(t, m, clause(), 6)
	checkCountWith(t, m, clause(is(0, 1)), 2)
	checkCountWith(t, m, clause(isNot(1, 2)), 4)
	checkCountWith(t, m, clause(is(0, 1), is(1, 2)), 1)
	checkCountWith(t, m, clause(is(0, 1), is(1, 1)), 0)
	checkCountWith(t, m, clause(is(0, 1), isNot(1, 1)), 2)
	checkCountWith(t, m, clause(isNot(0, 0), isNot(1, 0)), 2)
	// Values that are not in the domain, and literals that exclude each other.
	checkCountWith(t, m, clause(is(0, 3)), 0)
	checkCountWith(t, m, clause(isNot(0, 3)), 6)
	checkCountWith(t, m, clause(is(0, 1), isNot(0, 1)), 0)
	checkCountWith(t, m, clause(is(0, 1), is(0, 2)), 0)
	checkCountWith(t, m, clause(is(0, 1), isNot(0, 2)), 2)
	// The most literals and the most solutions.
	checkCountWith(t, full(63, 63, 63, 63), nil, 1296)
	checkCountWith(t, full(63, 63, 63, 63), clauseOf(4, func(l impl.Literal) bool { return l.Not && l.Var < 3 && l.Value < 4 }), 8*6)
}

func TestPromise106MarginalsCountEverySolutionOncePerVariable(t *testing.T) {
	s := newSource(206)
	seen := map[bool]int{}
	for range 400 {
		m := s.someModel()
		rows, all, backbone := impl.Marginals(m), impl.CountSolutions(m), impl.Backbone(m)
		if len(rows) != len(m.Domains) {
			t.Fatalf("Marginals(%+v) = %v", m, rows)
		}
		for i, row := range rows {
			sum := 0
			for v, n := range row {
				sum += n
				if n != impl.CountWith(m, clause(is(i, v))) || (n > 0) != impl.DomainHas(backbone[i], v) {
					t.Fatalf("Marginals(%+v) = %v, which is wrong for variable %d and value %d", m, rows, i, v)
				}
				seen[n > 0]++
			}
			if len(row) != 6 || sum != all {
				t.Fatalf("Marginals(%+v) = %v, but there are %d solutions", m, rows, all)
			}
		}
	}
	if seen[true] < 500 || seen[false] < 500 {
		t.Errorf("the values were not balanced: %v", seen)
	}
}

func TestMarginals(t *testing.T) {
	s := newSource(207)
	for range 200 {
		m := s.someModel()
		checkMarginals(t, m, marginalsIn(solutionsOf(m), len(m.Domains))...)
	}
	checkMarginals(t, pairwise(2, 7), []int{2, 2, 2, 0, 0, 0}, []int{2, 2, 2, 0, 0, 0})
	checkMarginals(t, impl.Model{Domains: []int{33}}, []int{1, 0, 0, 0, 0, 1})
	checkMarginals(t, listed([]int{0, 5, 1}, []int{3, 5, 1}, []int{3, 0, 1}), []int{1, 0, 0, 2, 0, 0}, []int{1, 0, 0, 0, 0, 2}, []int{0, 3, 0, 0, 0, 0})
	checkMarginals(t, full(63, 63, 63, 63), slices.Repeat(lists([]int{216, 216, 216, 216, 216, 216}), 4)...)
}

func TestPromise107EntailmentIsAPreorder(t *testing.T) {
	s := newSource(208)
	seen := map[bool]int{}
	chains := 0
	for range 800 {
		a := s.someModel()
		checkEntails(t, a, a, true)
		if k := len(a.Constraints); k > 0 {
			weaker, _ := impl.WithoutConstraint(a, s.IntN(k))
			checkEntails(t, a, weaker, true)
		}
		b := s.relative(a)
		c := s.relative(b)
		entails := impl.Entails(a, b)
		seen[entails]++
		if entails && impl.CountSolutions(a) > impl.CountSolutions(b) {
			t.Fatalf("%+v entails %+v, which has fewer solutions", a, b)
		}
		for _, x := range impl.SolveAll(a, 20) {
			if entails && !impl.IsSolution(b, x) {
				t.Fatalf("%+v entails %+v, which does not have the solution %v", a, b, x)
			}
		}
		if entails && impl.Entails(b, c) {
			checkEntails(t, a, c, true)
			chains++
		}
	}
	if seen[true] < 200 || seen[false] < 100 || chains < 100 {
		t.Errorf("the models were not balanced: %v, %d", seen, chains)
	}
}

func TestPromise108ModelAndItsPropagatedDomainsAreEquivalent(t *testing.T) {
	s := newSource(209)
	seen := map[bool]int{}
	for range 400 {
		m := s.provable()
		for _, domains := range lists(impl.Propagate(m), impl.Backbone(m)) {
			smaller := impl.Model{Domains: domains, Constraints: m.Constraints}
			checkEntails(t, m, smaller, true)
			checkEntails(t, smaller, m, true)
			seen[slices.Equal(domains, m.Domains)]++
		}
		// A value of the backbone is needed.
		v := s.IntN(len(m.Domains))
		smaller := cloneModel(m)
		smaller.Domains[v] = impl.Backbone(m)[v]
		if smaller.Domains[v] != 0 {
			smaller.Domains[v] &= smaller.Domains[v] - 1
			checkEntails(t, smaller, m, true)
			checkEntails(t, m, smaller, false)
		}
	}
	if seen[true] < 50 || seen[false] < 200 {
		t.Errorf("the models were not balanced: %v", seen)
	}
}

func TestEntailmentByItsDefinition(t *testing.T) {
	s := newSource(210)
	seen := map[[2]bool]int{}
	for range 600 {
		a := s.someModel()
		b := s.relative(s.relative(a))
		listA, listB := solutionsOf(a), solutionsOf(b)
		if len(listA) == 0 && s.IntN(2) == 0 {
			continue
		}
		there, back := entailsIn(listA, listB), entailsIn(listB, listA)
		checkEntails(t, a, b, there)
		checkEntails(t, b, a, back)
		seen[[2]bool{there, back}]++
	}
	for _, there := range []bool{false, true} {
		for _, back := range []bool{false, true} {
			if seen[[2]bool{there, back}] < 15 {
				t.Errorf("the models were not balanced: %v", seen)
			}
		}
	}
}

func TestEntailment(t *testing.T) {
	m := pairwise(2, 7)
	same := impl.Model{Domains: []int{7, 7}, Constraints: []impl.Constraint{{Kind: impl.AllDifferent, Vars: []int{1, 0}}}}
	checkEntails(t, m, same, true)
	checkEntails(t, same, m, true)
	// One solution less, by a domain or by a constraint.
	less := impl.Model{Domains: []int{7, 7}, Constraints: []impl.Constraint{table([]int{0, 1}, []int{0, 1}, []int{0, 2}, []int{1, 0}, []int{1, 2}, []int{2, 0})}}
	checkEntails(t, less, m, true)
	checkEntails(t, m, less, false)
	checkEntails(t, impl.Model{Domains: []int{7, 3}, Constraints: m.Constraints}, m, true)
	checkEntails(t, m, impl.Model{Domains: []int{7, 3}, Constraints: m.Constraints}, false)
	checkEntails(t, m, impl.Model{Domains: []int{63, 15}}, true)
	// Models with the same solutions in their first variables, but not with the same number of variables.
	checkEntails(t, m, pairwise(3, 7), false)
	checkEntails(t, pairwise(3, 7), m, false)
	checkEntails(t, impl.Model{Domains: []int{7, 7}}, impl.Model{Domains: []int{7, 7, 1}}, false)
	// Without solutions everything is entailed, if the numbers of variables are the same.
	for _, a := range unsolvable() {
		for _, b := range unsolvable() {
			checkEntails(t, a, b, len(a.Domains) == len(b.Domains))
		}
		n := len(a.Domains)
		checkEntails(t, a, full(slices.Repeat([]int{63}, n)...), true)
		checkEntails(t, full(slices.Repeat([]int{63}, n)...), a, false)
		checkEntails(t, a, full(slices.Repeat([]int{63}, n%4+1)...), false)
	}
}

func TestPromise109NoSolutionIsFarther(t *testing.T) {
	s := newSource(211)
	seen := map[bool]int{}
	ties := map[bool]int{}
	for range 800 {
		m := s.someModel()
		x := s.list(len(m.Domains), 0, 5)
		list := solutionsOf(m)
		y, ok := impl.FarthestFrom(m, x)
		if ok != (len(list) > 0) || ok && !impl.IsSolution(m, y) {
			t.Fatalf("FarthestFrom(%+v, %v) = %v, %v, but there are %d solutions", m, x, y, ok, len(list))
		}
		for _, z := range impl.SolveAll(m, 20) {
			if impl.Distance(x, z) > impl.Distance(x, y) {
				t.Fatalf("FarthestFrom(%+v, %v) = %v, but %v is farther", m, x, y, z)
			}
		}
		want, equal := farthestIn(list, x)
		checkFarthest(t, m, x, want)
		seen[ok]++
		ties[equal > 1 && !slices.Equal(want, list[0])]++
	}
	if seen[true] < 200 || seen[false] < 200 || ties[true] < 100 {
		t.Errorf("the models were not balanced: %v, %v", seen, ties)
	}
}

func TestFarthestSolutions(t *testing.T) {
	m := pairwise(2, 7)
	checkFarthest(t, m, []int{0, 1}, []int{1, 0})
	checkFarthest(t, m, []int{0, 0}, []int{1, 2})
	checkFarthest(t, m, []int{1, 1}, []int{0, 2})
	// Not a solution, and values that are not in the domains.
	checkFarthest(t, m, []int{5, 3}, []int{0, 1})
	checkFarthest(t, m, []int{0, 5}, []int{1, 0})
	// The only solution may be x itself.
	only := listed([]int{2, 3, 4})
	checkFarthest(t, only, []int{2, 3, 4}, []int{2, 3, 4})
	checkFarthest(t, only, []int{2, 3, 5}, []int{2, 3, 4})
	// It counts how many values differ, not how much.
	m = listed([]int{0, 1, 1}, []int{5, 0, 0}, []int{1, 1, 0})
	checkFarthest(t, m, []int{0, 0, 0}, []int{0, 1, 1})
	checkFarthest(t, m, []int{0, 1, 2}, []int{5, 0, 0})
	checkFarthest(t, full(63, 63, 63, 63), []int{0, 1, 0, 5}, []int{1, 0, 1, 0})
}

func TestPromise110MedianSolutionHasTheSmallestTotalDistance(t *testing.T) {
	s := newSource(212)
	seen := map[bool]int{}
	ties := map[bool]int{}
	for i := range 600 {
		m := s.someModel()
		if i%2 == 0 {
			m, _ = s.rugged()
		}
		x, ok := impl.MedianSolution(m)
		if ok != (impl.CountSolutions(m) > 0) || ok && !impl.IsSolution(m, x) {
			t.Fatalf("MedianSolution(%+v) = %v, %v", m, x, ok)
		}
		list := impl.SolveAll(m, 20)
		if impl.CountSolutions(m) > len(list) {
			continue
		}
		for _, y := range list {
			if totalDistance(list, y) < totalDistance(list, x) {
				t.Fatalf("MedianSolution(%+v) = %v, but %v is nearer to all solutions", m, x, y)
			}
		}
		want, equal := medianIn(list)
		checkMedian(t, m, want)
		seen[ok]++
		ties[ok && equal < len(list) && !slices.Equal(want, list[0])]++
	}
	if seen[true] < 150 || seen[false] < 50 || ties[true] < 100 {
		t.Errorf("the models were not balanced: %v, %v", seen, ties)
	}
}

func TestMedianSolutions(t *testing.T) {
	// Models with more solutions than are listed.
	s := newSource(213)
	for range 12 {
		m, list := s.solved()
		if len(list) > 400 {
			m.Domains[0] &= -m.Domains[0]
			list = solutionsOf(m)
		}
		want, _ := medianIn(list)
		checkMedian(t, m, want)
	}
	checkMedian(t, pairwise(2, 7), []int{0, 1})
	checkMedian(t, listed([]int{4, 5}), []int{4, 5})
	// The most frequent values, if together they are a solution.
	checkMedian(t, listed([]int{0, 0, 5}, []int{0, 1, 1}, []int{1, 1, 1}, []int{2, 1, 0}), []int{0, 1, 1})
	checkMedian(t, listed([]int{0, 0, 3}, []int{1, 1, 0}, []int{1, 2, 0}, []int{2, 1, 4}), []int{1, 1, 0})
	checkMedian(t, listed([]int{1, 3}, []int{0, 2}, []int{0, 1}, []int{2, 3}), []int{0, 1})
	// Of two that are as good, the first one.
	checkMedian(t, listed([]int{0, 3, 0}, []int{1, 1, 1}, []int{1, 1, 2}), []int{1, 1, 1})
	checkMedian(t, full(63, 62, 60, 56), []int{0, 1, 2, 3})
}

func TestRanksRejectInvalidArguments(t *testing.T) {
	for _, m := range invalidModels() {
		n := len(m.Domains)
		checkRankOf(t, m, make([]int, n), -1)
		checkRankOf(t, m, nil, -1)
		for _, rank := range append(extremeNumbers(), 0, 1) {
			checkSolutionAt(t, m, rank, nil)
		}
		checkCountWith(t, m, nil, -1)
		checkCountWith(t, m, clause(is(0, 0)), -1)
		checkMarginals(t, m)
		checkFarthest(t, m, make([]int, n), nil)
		checkMedian(t, m, nil)
		checkEntails(t, m, m, false)
		for _, valid := range []impl.Model{{Domains: []int{0}}, {Domains: []int{63, 63}}, full(63, 63, 63, 63), {Domains: make([]int, max(1, min(4, n)))}} {
			checkEntails(t, m, valid, false)
			checkEntails(t, valid, m, false)
		}
	}
	for _, m := range append(unsolvable(), pairwise(2, 7), full(63, 63, 63, 63), impl.Model{Domains: []int{1}}) {
		n := len(m.Domains)
		for _, x := range invalidAssignments(n) {
			checkRankOf(t, m, x, -1)
			checkFarthest(t, m, x, nil)
		}
		for _, lits := range invalidClauses(n) {
			checkCountWith(t, m, lits, -1)
		}
		for _, rank := range extremeNumbers() {
			checkSolutionAt(t, m, rank, nil)
		}
	}
}

// rankLists calls all functions of the chapter that return slices.
func rankLists(m impl.Model, x []int) [][]int {
	at, _ := impl.SolutionAt(m, 1)
	farthest, _ := impl.FarthestFrom(m, x)
	median, _ := impl.MedianSolution(m)
	return append(impl.Marginals(m), at, farthest, median)
}

func TestRanksLeaveTheirArgumentsAlone(t *testing.T) {
	s := newSource(214)
	for range 200 {
		m := roomy(s.someModel())
		other := roomy(s.relative(m))
		x, lits := s.list(len(m.Domains), 0, 5), s.conjunction(len(m.Domains))
		before, otherBefore, xBefore, litsBefore := snapshot(m), snapshot(other), slices.Clone(x), slices.Clone(lits)
		want := spoil(t, rankLists(m, x))
		impl.RankOf(m, x)
		impl.CountWith(m, lits)
		impl.Entails(m, other)
		if !sameModel(before, snapshot(m)) || !sameModel(otherBefore, snapshot(other)) || !slices.Equal(x, xBefore) || !slices.Equal(lits, litsBefore) {
			t.Fatal("an argument was changed, or shares memory with a result")
		}
		if !sameLists(rankLists(m, x), want) {
			t.Fatal("a result is kept from call to call")
		}
	}
}

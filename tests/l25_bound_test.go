package tests

import (
	"math"
	"slices"
	"testing"

	"loop.example/constraintsolver/impl"
)

// below returns the bounded model for m by its definition.
func below(m impl.Model, obj []int, bound int) impl.Model {
	c := impl.Constraint{Kind: impl.Linear, Vars: others(len(obj), nil), Args: obj, Bound: bound - 1}
	return impl.Model{Domains: m.Domains, Constraints: append(slices.Clone(m.Constraints), c)}
}

// cutAt lists the propagated domains of the search nodes of m that do not fail, and are at the depth, or at a smaller one
// and have one value each.
func cutAt(m impl.Model, depth int) [][]int {
	domains := propagated(m)
	if domains[0] == 0 {
		return nil
	}
	v := slices.IndexFunc(domains, func(d int) bool { return len(valuesOf(d)) > 1 })
	if depth == 0 || v < 0 {
		return lists(domains)
	}
	var nodes [][]int
	for _, a := range valuesOf(domains[v]) {
		nodes = append(nodes, cutAt(fixed(withDomains(m, domains), v, a), depth-1)...)
	}
	return nodes
}

// leastOf returns the smallest value of the objective on the domains of any of the nodes, or 0 and false if there are none.
func leastOf(nodes [][]int, obj []int) (int, bool) {
	if len(nodes) == 0 {
		return 0, false
	}
	least := math.MaxInt
	for _, domains := range nodes {
		least = min(least, lowest(domains, obj))
	}
	return least, true
}

// around is Neighbourhood by its definition.
func around(m impl.Model, x []int, free []int) impl.Model {
	part := cloneModel(m)
	for _, v := range others(len(x), free) {
		part.Domains[v] = 0
		if slices.Contains(valuesOf(m.Domains[v]), x[v]) {
			part.Domains[v] = 1 << x[v]
		}
	}
	return part
}

// setsOf lists the sets of variables below n with a size in lexicographic order.
func setsOf(n int, size int) [][]int {
	var sets [][]int
	for set := range 1 << n {
		if vars := valuesOf(set); len(vars) == size {
			sets = append(sets, vars)
		}
	}
	slices.SortFunc(sets, slices.Compare[[]int])
	return sets
}

// largelySearched is LargeNeighbourhoodSearch by its definition, from all solutions, with the sets that improved x.
func largelySearched(list [][]int, obj []int, x []int, size int) ([]int, [][]int) {
	var used [][]int
search:
	for {
		for _, set := range setsOf(len(x), size) {
			if y := improvedOf(list, obj, x, set); valueAt(obj, y) < valueAt(obj, x) {
				x, used = y, append(used, set)
				continue search
			}
		}
		return x, used
	}
}

// nearBound returns a bound that is near the smallest value of the objective, if there is one.
func (s source) nearBound(list [][]int, obj []int) int {
	if len(list) == 0 {
		return s.between(-998, 1000)
	}
	best, _ := firstBest(list, obj)
	return valueAt(obj, best) + s.between(-3, 3)
}

// optimizable returns a model with solutions, the solutions and an objective. Often propagation alone is far from the
// optimum.
func (s source) optimizable() (impl.Model, [][]int, []int) {
	for {
		m, obj := s.optimization()
		if list := solutionsOf(m); len(list) > 0 {
			return m, list, obj
		}
	}
}

// searchable returns a model with solutions, the solutions, an objective, one of the solutions and a size of sets. Often
// there are local optima.
func (s source) searchable() (impl.Model, [][]int, []int, []int, int) {
	m, list := s.rugged()
	if s.IntN(3) == 0 {
		m, list = s.solved()
	}
	n := len(m.Domains)
	return m, list, s.objective(n), list[s.IntN(len(list))], s.between(1, n)
}

// checkProved reports a bound that ProveBound does not prove with the wanted steps, or CheckBound does not accept.
func checkProved(t *testing.T, m impl.Model, obj []int, bound int, want ...[]impl.Literal) {
	t.Helper()
	if got, ok := impl.ProveBound(m, obj, bound); !ok || !sameProof(got, want) {
		t.Errorf("ProveBound(%+v, %v, %d) = %v, %v, want %v", m, obj, bound, got, ok, want)
	}
	checkClaim(t, m, obj, bound, want, true)
}

// checkUnproved reports a bound that ProveBound proves although it should not.
func checkUnproved(t *testing.T, m impl.Model, obj []int, bound int) {
	t.Helper()
	if got, ok := impl.ProveBound(m, obj, bound); ok || len(got) != 0 {
		t.Errorf("ProveBound(%+v, %v, %d) = %v, %v", m, obj, bound, got, ok)
	}
}

// checkClaim reports a bound that CheckBound judges wrongly.
func checkClaim(t *testing.T, m impl.Model, obj []int, bound int, proof [][]impl.Literal, want bool) {
	t.Helper()
	if impl.CheckBound(m, obj, bound, proof) != want {
		t.Errorf("CheckBound(%+v, %v, %d, %v) = %v", m, obj, bound, proof, !want)
	}
}

// checkNoBound reports a bound that is proved, or accepted with the shortest proof.
func checkNoBound(t *testing.T, m impl.Model, obj []int, bound int) {
	t.Helper()
	checkUnproved(t, m, obj, bound)
	checkClaim(t, m, obj, bound, steps(nil), false)
	checkClaim(t, m, obj, bound, nil, false)
}

// checkTreeBound reports a depth at which TreeBound does not return what is wanted.
func checkTreeBound(t *testing.T, m impl.Model, obj []int, depth int, want int, wantOK bool) {
	t.Helper()
	if got, ok := impl.TreeBound(m, obj, depth); got != want || ok != wantOK {
		t.Errorf("TreeBound(%+v, %v, %d) = %d, %v, want %d, %v", m, obj, depth, got, ok, want, wantOK)
	}
}

// checkTreeBounds reports a model with solutions that does not have the wanted bounds at the depths 0, 1 and so on.
func checkTreeBounds(t *testing.T, m impl.Model, obj []int, want ...int) {
	t.Helper()
	for depth, bound := range want {
		checkTreeBound(t, m, obj, depth, bound, true)
	}
}

// checkGap reports an assignment for which OptimalityGap does not return what is wanted.
func checkGap(t *testing.T, m impl.Model, obj []int, x []int, want int, wantOK bool) {
	t.Helper()
	if got, ok := impl.OptimalityGap(m, obj, x); got != want || ok != wantOK {
		t.Errorf("OptimalityGap(%+v, %v, %v) = %d, %v, want %d, %v", m, obj, x, got, ok, want, wantOK)
	}
}

// checkAround reports free variables for which Neighbourhood does not return the wanted model.
func checkAround(t *testing.T, m impl.Model, x []int, free []int, want impl.Model) {
	t.Helper()
	if got, ok := impl.Neighbourhood(m, x, free); !ok || !sameModel(got, want) {
		t.Errorf("Neighbourhood(%+v, %v, %v) = %+v, %v, want %+v", m, x, free, got, ok, want)
	}
}

// checkNotAround reports arguments for which Neighbourhood should fail.
func checkNotAround(t *testing.T, m impl.Model, x []int, free []int) {
	t.Helper()
	if got, ok := impl.Neighbourhood(m, x, free); ok || !isZeroModel(got) {
		t.Errorf("Neighbourhood(%+v, %v, %v) = %+v, %v", m, x, free, got, ok)
	}
}

// checkLarge reports a search that does not end at the wanted solution, or succeeds if none is wanted.
func checkLarge(t *testing.T, m impl.Model, obj []int, x []int, size int, want []int) {
	t.Helper()
	if got, ok := impl.LargeNeighbourhoodSearch(m, obj, x, size); !slices.Equal(got, want) || ok != (want != nil) {
		t.Errorf("LargeNeighbourhoodSearch(%+v, %v, %v, %d) = %v, %v, want %v", m, obj, x, size, got, ok, want)
	}
}

func TestPromise118BoundsCanBeProvedExactlyUpToTheOptimum(t *testing.T) {
	s := newSource(228)
	seen := map[bool]int{}
	for range 600 {
		m, obj := s.optimization()
		if len(m.Constraints) == 6 {
			continue
		}
		list := solutionsOf(m)
		bound := s.nearBound(list, obj)
		proof, ok := impl.ProveBound(m, obj, bound)
		if !ok {
			checkUnproved(t, m, obj, bound)
		} else if !impl.CheckBound(m, obj, bound, proof) {
			t.Fatalf("CheckBound(%+v, %v, %d, %v) does not accept the proof", m, obj, bound, proof)
		}
		if len(list) == 0 {
			continue
		}
		x, _ := impl.Minimize(m, obj)
		value := impl.ObjectiveValue(obj, x)
		if ok && value < bound {
			t.Fatalf("ProveBound(%+v, %v, %d) = %v, but %v has the value %d", m, obj, bound, proof, x, value)
		}
		// A true bound is proved unless the proof is too long.
		if _, nodes := impl.Solve(below(m, obj, bound)); ok != (value >= bound && nodes <= 200) {
			t.Fatalf("ProveBound(%+v, %v, %d) = %v, %v, but %v has the value %d", m, obj, bound, proof, ok, x, value)
		}
		seen[ok]++
	}
	if seen[true] < 150 || seen[false] < 100 {
		t.Errorf("the bounds were not balanced: %v", seen)
	}
}

func TestProveBoundByItsDefinition(t *testing.T) {
	s := newSource(229)
	long := 0
	for range 300 {
		m, list, obj := s.optimizable()
		if len(m.Constraints) == 6 {
			continue
		}
		best, _ := firstBest(list, obj)
		bound := valueAt(obj, best) - s.between(0, 1)
		want := excluding(below(m, obj, bound), nil)
		if len(want) > 200 {
			checkUnproved(t, m, obj, bound)
			continue
		}
		checkProved(t, m, obj, bound, want...)
		if len(want) > 1 {
			long++
		}
	}
	if long < 15 {
		t.Errorf("only %d proofs had more than one step", long)
	}
}

func TestPromise119AcceptedBoundsAreTrue(t *testing.T) {
	s := newSource(230)
	seen := map[bool]int{}
	for range 400 {
		m, list, obj := s.optimizable()
		if len(m.Constraints) == 6 {
			continue
		}
		n := len(m.Domains)
		best, _ := firstBest(list, obj)
		optimum := valueAt(obj, best)
		proof, ok := impl.ProveBound(m, obj, optimum)
		if !ok {
			proof = steps(nil)
		}
		bounds := []int{optimum + 1, optimum, optimum - 1, optimum - 5, -998, 1000, s.nearBound(list, obj)}
		for _, p := range [][][]impl.Literal{proof, steps(nil), s.tamper(proof, n), append(s.proof(n, 4), nil)} {
			for _, bound := range bounds {
				accepted := impl.CheckBound(m, obj, bound, p)
				seen[accepted]++
				if !accepted {
					continue
				}
				for _, x := range impl.SolveAll(m, 20) {
					if impl.ObjectiveValue(obj, x) < bound {
						t.Fatalf("CheckBound(%+v, %v, %d, %v), but %v has a smaller value", m, obj, bound, p, x)
					}
				}
				if bound > -998 {
					checkClaim(t, m, obj, bound-1, p, true)
				}
			}
		}
	}
	if seen[true] < 300 || seen[false] < 300 {
		t.Errorf("the claims were not balanced: %v", seen)
	}
}

func TestCheckBoundByItsDefinition(t *testing.T) {
	s := newSource(231)
	seen := map[bool]int{}
	for range 300 {
		m, list, obj := s.optimizable()
		if len(m.Constraints) == 6 {
			continue
		}
		n := len(m.Domains)
		bound := s.nearBound(list, obj)
		proof, ok := impl.ProveBound(m, obj, bound)
		if !ok || len(proof) > 40 {
			proof = steps(nil)
		}
		for _, p := range [][][]impl.Literal{proof, s.tamper(proof, n), steps(nil), s.proof(n, 3)} {
			want := accepted(below(m, obj, bound), p)
			seen[want]++
			checkClaim(t, m, obj, bound, p, want)
		}
	}
	if seen[true] < 80 || seen[false] < 80 {
		t.Errorf("the proofs were not balanced: %v", seen)
	}
}

func TestProofsOfBounds(t *testing.T) {
	free := impl.Model{Domains: []int{63, 62}}
	checkProved(t, free, []int{1, 1}, 1, nil)
	checkUnproved(t, free, []int{1, 1}, 2)
	checkClaim(t, free, []int{1, 1}, 2, steps(nil), false)
	checkProved(t, free, []int{-9, -9}, -90, nil)
	checkUnproved(t, free, []int{-9, -9}, -89)
	checkProved(t, free, []int{0, 0}, 0, nil)
	checkUnproved(t, free, []int{0, 0}, 1)
	// Each variable can be 0, so that propagation alone proves only less.
	sum := pairwise(3, 7)
	checkProved(t, sum, []int{1, 1, 1}, 1, nil)
	proof := steps(clause(isNot(0, 0)), clause(isNot(0, 1)), clause(isNot(0, 2)), nil)
	checkProved(t, sum, []int{1, 1, 1}, 3, proof...)
	checkUnproved(t, sum, []int{1, 1, 1}, 4)
	checkClaim(t, sum, []int{1, 1, 1}, 4, proof, false)
	checkClaim(t, sum, []int{1, 1, 1}, 3, proof[:3], false)
	checkClaim(t, sum, []int{1, 1, 1}, 3, steps(nil), false)
	checkClaim(t, sum, []int{1, 1, 1}, 3, nil, false)
	// The coefficients belong to the variables in ascending order.
	checkProved(t, impl.Model{Domains: []int{1, 2, 4, 8}}, []int{9, -1, 2, -5}, 0-1+4-15, nil)
	checkUnproved(t, impl.Model{Domains: []int{1, 2, 4, 8}}, []int{9, -1, 2, -5}, 0-1+4-15+1)
	// A step must be a valid clause, even if it is not needed.
	checkClaim(t, free, []int{1, 1}, 1, steps(clause(is(0, 1)), nil), true)
	for _, c := range invalidClauses(2) {
		checkClaim(t, free, []int{1, 1}, 1, steps(c, nil), false)
		checkClaim(t, free, []int{1, 1}, 1, steps(nil, c, nil), false)
	}
	for _, count := range []int{1, 199, 200, 201} {
		checkClaim(t, free, []int{1, 1}, 1, make([][]impl.Literal, count), count <= 200)
	}
}

func TestBoundsAtTheEndsOfTheirRange(t *testing.T) {
	for n := 1; n <= 4; n++ {
		free := impl.Model{Domains: slices.Repeat([]int{63}, n)}
		failed := impl.Model{Domains: make([]int, n)}
		obj := slices.Repeat([]int{-9}, n)
		for _, bound := range []int{-998, -997, -45 * n} {
			checkProved(t, free, obj, bound, nil)
			checkProved(t, failed, obj, bound, nil)
		}
		for _, bound := range []int{1000, 999, 1 - 45*n} {
			checkNoBound(t, free, obj, bound)
			// Without solutions every bound is true.
			checkProved(t, failed, obj, bound, nil)
		}
		for _, bound := range []int{-999, -1000, 1001, 1002, -1 << 32, 1 << 32, smallestInt, smallestInt + 1, largestInt} {
			checkNoBound(t, free, obj, bound)
			checkNoBound(t, failed, obj, bound)
			checkNoBound(t, failed, make([]int, n), bound)
		}
	}
}

func TestBoundsNeedRoomForAConstraintAndTheSteps(t *testing.T) {
	m := impl.Model{Domains: []int{62}}
	for range 6 {
		checkProved(t, m, []int{1}, 1, nil)
		checkUnproved(t, m, []int{1}, 2)
		m.Constraints = append(m.Constraints, impl.Constraint{Kind: impl.AllDifferent, Vars: []int{0}})
	}
	checkNoBound(t, m, []int{1}, 1)
	checkNoBound(t, m, []int{1}, -998)
	m.Domains[0] = 0
	checkNoBound(t, m, []int{1}, 1)
	// The last variable is 5 in every solution, and it takes as many steps as in TestLongestProofs to prove that.
	long, obj := odd([]int{3, 2, 2}, 22), []int{0, 0, 0, 1}
	long.Domains[3] = 63
	if proof, ok := impl.ProveBound(long, obj, 5); !ok || len(proof) != 200 || !impl.CheckBound(long, obj, 5, proof) {
		t.Errorf("ProveBound(%+v) has %d steps, %v", long, len(proof), ok)
	}
	longer := odd([]int{3, 1, 3}, 22)
	longer.Domains[3] = 63
	checkUnproved(t, longer, obj, 5)
}

func TestPromise120BoundEqualToTheValueOfASolutionProvesThatItIsOptimal(t *testing.T) {
	s := newSource(232)
	seen := map[bool]int{}
	for range 400 {
		m, list, obj := s.optimizable()
		n := len(m.Domains)
		best, _ := firstBest(list, obj)
		proof, ok := impl.ProveOptimal(m, obj, best)
		if !ok {
			proof = steps(nil)
		}
		for _, x := range lists(best, list[0], list[s.IntN(len(list))]) {
			for _, p := range [][][]impl.Literal{proof, s.tamper(proof, n), steps(nil), s.proof(n, 3)} {
				want := impl.CheckOptimal(m, obj, x, p)
				seen[want]++
				checkClaim(t, m, obj, impl.ObjectiveValue(obj, x), p, want)
			}
		}
	}
	if seen[true] < 200 || seen[false] < 200 {
		t.Errorf("the proofs were not balanced: %v", seen)
	}
}

func TestPromise121DeeperSearchGivesBetterBounds(t *testing.T) {
	s := newSource(233)
	seen := map[string]int{}
	for range 500 {
		m, obj := s.optimization()
		bound, ok := impl.LowerBound(m, obj)
		checkTreeBound(t, m, obj, 0, bound, ok)
		for depth := 1; depth <= 4; depth++ {
			deeper, found := impl.TreeBound(m, obj, depth)
			if found && (!ok || deeper < bound) {
				t.Fatalf("TreeBound(%+v, %v, %d) = %d, but %d, %v before", m, obj, depth, deeper, bound, ok)
			}
			if found && deeper > bound {
				seen["larger"]++
			}
			if ok && !found {
				seen["failed"]++
			}
			bound, ok = deeper, found
		}
		x, solved := impl.Minimize(m, obj)
		checkTreeBound(t, m, obj, 4, impl.ObjectiveValue(obj, x), solved)
	}
	if seen["larger"] < 100 || seen["failed"] < 20 {
		t.Errorf("the depths were not balanced: %v", seen)
	}
}

func TestTreeBoundByItsDefinition(t *testing.T) {
	s := newSource(234)
	above := 0
	for i := range 300 {
		m, obj := s.optimization()
		depth := i % 5
		nodes := cutAt(m, depth)
		want, ok := leastOf(nodes, obj)
		checkTreeBound(t, m, obj, depth, want, ok)
		if depth == 0 || len(nodes) < 2 {
			continue
		}
		// The best node may be a solution above the depth, and there are worse ones at the depth.
		solved := slices.DeleteFunc(cutAt(m, depth-1), func(domains []int) bool { return sizeOf(domains) > len(domains) })
		if bound, _ := leastOf(solved, obj); len(solved) > 0 && len(solved) < len(nodes) && bound == want {
			above++
		}
	}
	if above < 10 {
		t.Errorf("the best node was a solution above the depth only %d times", above)
	}
}

func TestTreeBounds(t *testing.T) {
	free := impl.Model{Domains: []int{62, 31, 12, 1}}
	checkTreeBounds(t, free, []int{1, 1, 1, 1}, 3, 3, 3, 3, 3)
	checkTreeBounds(t, free, []int{-1, -1, -1, -1}, -12, -12, -12, -12, -12)
	// Each variable can be 0, and those that are not fixed yet can be 0 together.
	checkTreeBounds(t, pairwise(4, 15), []int{1, 1, 1, 1}, 0, 1, 3, 6, 6)
	checkTreeBounds(t, pairwise(4, 15), []int{0, 0, 0, 1}, 0, 0, 0, 0, 0)
	checkTreeBounds(t, pairwise(4, 15), []int{-1, -1, -1, 0}, -9, -8, -6, -6, -6)
	checkTreeBounds(t, pairwise(2, 7), []int{2, 2}, 0, 2, 2, 2, 2)
	checkTreeBounds(t, atLeast(2, 7), []int{1, 1}, 4, 7, 7, 7, 7)
	// All nodes at depth 2 fail, or at depth 1, or the root.
	checkTreeBounds(t, pairwise(4, 7), []int{1, 1, 1, 1}, 0, 1)
	checkTreeBounds(t, disagreement(7), []int{1, 2}, 0)
	for depth := range 5 {
		checkTreeBound(t, pairwise(4, 7), []int{1, 1, 1, 1}, max(depth, 2), 0, false)
		checkTreeBound(t, disagreement(7), []int{1, 2}, max(depth, 1), 0, false)
		checkTreeBound(t, atLeast(2, 11), []int{1, 1}, depth, 0, false)
		checkTreeBound(t, full(63, 0), []int{1, 1}, depth, 0, false)
	}
}

func TestSolutionsAboveTheDepthCount(t *testing.T) {
	// The root is a solution.
	one := impl.Model{Domains: []int{32, 2}}
	checkTreeBounds(t, one, []int{2, -3}, 7, 7, 7, 7, 7)
	checkTreeBounds(t, impl.Model{Domains: []int{63}}, []int{-2}, -10, -10, -10, -10, -10)
	// If variable 0 is 0, the other ones are 1, and otherwise they are not fixed yet.
	table := listed([]int{0, 1, 1}, []int{2, 2, 3}, []int{2, 3, 2}, []int{2, 3, 3})
	checkTreeBounds(t, table, []int{1, 1, 1}, 2, 2, 2, 2, 2)
	checkTreeBounds(t, table, []int{-1, -1, -1}, -8, -8, -8, -8, -8)
	checkTreeBounds(t, table, []int{5, -1, -1}, -6, -2, -2, -2, -2)
	checkTreeBounds(t, table, []int{-1, 9, 9}, 16, 18, 18, 18, 18)
	// It is the only node below depth 1: otherwise variables 1 to 3 have to be different, and only 0 and 1 are left.
	alone := impl.Model{Domains: []int{3, 7, 7, 7}}
	for _, vars := range lists([]int{0, 1, 2}, []int{0, 1, 3}, []int{0, 2, 3}) {
		rows := impl.Constraint{Kind: impl.Table, Vars: vars, Rows: lists([]int{0, 2, 2}, []int{1, 0, 1}, []int{1, 1, 0})}
		alone.Constraints = append(alone.Constraints, rows)
	}
	checkTreeBounds(t, alone, []int{0, 1, 1, 1}, 0, 0, 6, 6, 6)
}

func TestPromise122GapOf0ProvesOptimality(t *testing.T) {
	s := newSource(235)
	seen := map[bool]int{}
	for range 400 {
		m, list, obj := s.optimizable()
		best, _ := firstBest(list, obj)
		for _, x := range lists(best, list[s.IntN(len(list))]) {
			gap, ok := impl.OptimalityGap(m, obj, x)
			if !ok || gap < 0 {
				t.Fatalf("OptimalityGap(%+v, %v, %v) = %d, %v", m, obj, x, gap, ok)
			}
			if gap == 0 && valueAt(obj, x) != valueAt(obj, best) {
				t.Fatalf("OptimalityGap(%+v, %v, %v) = 0, but %v is better", m, obj, x, best)
			}
			checkGap(t, m, obj, x, valueAt(obj, x)-lowest(propagated(m), obj), true)
			seen[gap == 0]++
		}
	}
	if seen[true] < 100 || seen[false] < 100 {
		t.Errorf("the gaps were not balanced: %v", seen)
	}
}

func TestOptimalityGaps(t *testing.T) {
	free := impl.Model{Domains: []int{62, 31}}
	checkGap(t, free, []int{1, 1}, []int{1, 0}, 0, true)
	checkGap(t, free, []int{1, 1}, []int{5, 4}, 8, true)
	checkGap(t, free, []int{-9, 9}, []int{1, 4}, 72, true)
	checkGap(t, free, []int{0, 0}, []int{1, 4}, 0, true)
	// An optimal solution may have a gap: only propagation counts.
	checkGap(t, atLeast(2, 7), []int{1, 1}, []int{2, 5}, 3, true)
	checkGap(t, atLeast(2, 10), []int{1, 1}, []int{5, 5}, 0, true)
	checkGap(t, pairwise(3, 7), []int{1, 1, 1}, []int{2, 1, 0}, 3, true)
	// No solution: a value is not in its domain, or a constraint is violated.
	checkGap(t, free, []int{1, 1}, []int{0, 0}, 0, false)
	checkGap(t, free, []int{1, 1}, []int{1, 5}, 0, false)
	checkGap(t, atLeast(2, 7), []int{1, 1}, []int{1, 5}, 0, false)
	checkGap(t, pairwise(4, 7), []int{1, 1, 1, 1}, []int{0, 1, 2, 0}, 0, false)
	checkGap(t, impl.Model{Domains: []int{63, 0}}, []int{1, 1}, []int{0, 0}, 0, false)
}

func TestPromise123NeighbourhoodHasTheSolutionsThatAgree(t *testing.T) {
	s := newSource(236)
	seen := map[bool]int{}
	for range 500 {
		m := s.someModel()
		list := solutionsOf(m)
		n := len(m.Domains)
		x, free := s.list(n, 0, 5), s.variableSet(n)
		if len(list) > 0 && s.IntN(2) == 0 {
			x = list[s.IntN(len(list))]
		}
		part, ok := impl.Neighbourhood(m, x, free)
		if !ok || !impl.ValidModel(part) {
			t.Fatalf("Neighbourhood(%+v, %v, %v) = %+v, %v", m, x, free, part, ok)
		}
		want := agreeing(list, x, others(n, free))
		if got := solutionsOf(part); !sameLists(got, want) {
			t.Fatalf("Neighbourhood(%+v, %v, %v) has the solutions %v, want %v", m, x, free, got, want)
		}
		checkAround(t, m, x, free, around(m, x, free))
		seen[len(want) > 1]++
	}
	if seen[true] < 50 || seen[false] < 100 {
		t.Errorf("the neighbourhoods were not balanced: %v", seen)
	}
}

func TestNeighbourhoods(t *testing.T) {
	m := pairwise(4, 63)
	m.Domains = []int{7, 0, 56, 63}
	same := func(domains ...int) impl.Model { return impl.Model{Domains: domains, Constraints: m.Constraints} }
	x := []int{2, 2, 2, 2}
	// A value that is not in its domain leaves nothing, and an empty domain stays empty.
	checkAround(t, m, x, nil, same(4, 0, 0, 4))
	checkAround(t, m, x, []int{}, same(4, 0, 0, 4))
	checkAround(t, m, x, []int{0}, same(7, 0, 0, 4))
	checkAround(t, m, x, []int{1, 2}, same(4, 0, 56, 4))
	checkAround(t, m, x, []int{0, 3}, same(7, 0, 0, 63))
	checkAround(t, m, x, []int{0, 1, 2, 3}, m)
	checkAround(t, m, []int{0, 5, 5, 1}, []int{3}, same(1, 0, 32, 63))
	checkAround(t, m, []int{3, 0, 3, 5}, []int{2}, same(0, 0, 56, 32))
	// One variable, free or not.
	checkAround(t, full(63), []int{5}, nil, full(32))
	checkAround(t, full(63), []int{5}, []int{0}, full(63))
	checkAround(t, full(1), []int{5}, nil, full(0))
	checkAround(t, full(1), []int{5}, []int{0}, full(1))
	checkAround(t, full(0), []int{0}, nil, full(0))
}

func TestPromise124SearchEndsAtALocalOptimum(t *testing.T) {
	s := newSource(237)
	counts := map[int]int{}
	for range 800 {
		m, list, obj, x, size := s.searchable()
		want, used := largelySearched(list, obj, x, size)
		checkLarge(t, m, obj, x, size, want)
		counts[min(len(used), 2)]++
		y, ok := impl.LargeNeighbourhoodSearch(m, obj, x, size)
		if !ok || !impl.IsSolution(m, y) || impl.ObjectiveValue(obj, y) > impl.ObjectiveValue(obj, x) {
			t.Fatalf("LargeNeighbourhoodSearch(%+v, %v, %v, %d) = %v, %v", m, obj, x, size, y, ok)
		}
		checkLarge(t, m, obj, y, size, y)
		best, _ := impl.Minimize(m, obj)
		y, _ = impl.LargeNeighbourhoodSearch(m, obj, x, len(x))
		if impl.ObjectiveValue(obj, y) != impl.ObjectiveValue(obj, best) {
			t.Fatalf("LargeNeighbourhoodSearch(%+v, %v, %v, %d) = %v, but %v is better", m, obj, x, len(x), y, best)
		}
	}
	if counts[0] < 100 || counts[1] < 100 || counts[2] < 20 {
		t.Errorf("the searches were not balanced: %v", counts)
	}
}

func TestPromise125NoNeighbourhoodOfTheResultIsBetter(t *testing.T) {
	s := newSource(238)
	local := 0
	for range 500 {
		m, _, obj, x, size := s.searchable()
		y, _ := impl.LargeNeighbourhoodSearch(m, obj, x, size)
		value := impl.ObjectiveValue(obj, y)
		for _, set := range setsOf(len(x), size) {
			part, ok := impl.Neighbourhood(m, y, set)
			best, solved := impl.Minimize(part, obj)
			if !ok || !solved || impl.ObjectiveValue(obj, best) < value {
				t.Fatalf("LargeNeighbourhoodSearch(%+v, %v, %v, %d) = %v, but %v is better", m, obj, x, size, y, best)
			}
		}
		if best, _ := impl.Minimize(m, obj); impl.ObjectiveValue(obj, best) < value {
			local++
		}
	}
	if local < 50 {
		t.Errorf("only %d local optima were not optimal", local)
	}
}

func TestLargeNeighbourhoodSearches(t *testing.T) {
	free := impl.Model{Domains: []int{63, 63, 63, 63}}
	for size := 1; size <= 4; size++ {
		checkLarge(t, free, []int{1, 1, 1, 1}, []int{5, 4, 3, 2}, size, []int{0, 0, 0, 0})
		checkLarge(t, free, []int{-1, 2, 1, -9}, []int{1, 2, 3, 4}, size, []int{5, 0, 0, 5})
		// An earlier solution with the same value does not replace x.
		checkLarge(t, free, []int{0, 0, 0, 0}, []int{5, 5, 5, 5}, size, []int{5, 5, 5, 5})
	}
	// The variables of a set that helps get their smallest values, and the other ones keep theirs.
	checkLarge(t, free, []int{0, 1, 0, 0}, []int{3, 3, 3, 3}, 1, []int{3, 0, 3, 3})
	checkLarge(t, free, []int{0, 1, 0, 0}, []int{3, 3, 3, 3}, 2, []int{0, 0, 3, 3})
	checkLarge(t, free, []int{0, 0, 1, 0}, []int{3, 3, 3, 3}, 2, []int{0, 3, 0, 3})
	checkLarge(t, free, []int{0, 0, 0, -1}, []int{3, 3, 3, 3}, 3, []int{0, 0, 3, 5})
	// One variable at a time cannot leave the sum that is needed.
	checkLarge(t, atLeast(2, 7), []int{1, 2}, []int{2, 5}, 1, []int{2, 5})
	checkLarge(t, atLeast(2, 7), []int{1, 2}, []int{2, 5}, 2, []int{5, 2})
	checkLarge(t, atLeast(2, 7), []int{1, 2}, []int{4, 5}, 1, []int{2, 5})
	checkLarge(t, atLeast(2, 7), []int{1, 1}, []int{5, 2}, 2, []int{5, 2})
	for v := range 6 {
		checkLarge(t, impl.Model{Domains: []int{63}}, []int{1}, []int{v}, 1, []int{0})
		checkLarge(t, impl.Model{Domains: []int{63}}, []int{0}, []int{v}, 1, []int{v})
	}
}

func TestOrderOfLargeNeighbourhoods(t *testing.T) {
	// After a step the search begins again with the first set. Going on would lead to 1 1 1 and to 1 0 0.
	table := listed([]int{0, 1, 2}, []int{1, 1, 1}, []int{1, 1, 2}, []int{1, 2, 2})
	checkLarge(t, table, []int{1, 1, 1}, []int{1, 2, 2}, 1, []int{0, 1, 2})
	table = listed([]int{0, 0, 1}, []int{1, 0, 0}, []int{1, 1, 1}, []int{2, 1, 2}, []int{2, 2, 1})
	checkLarge(t, table, []int{1, 1, 1}, []int{2, 1, 2}, 2, []int{0, 0, 1})
	// Variables 0 and 3 are tried before variables 1 and 2, which would lead to 0 0 0 2.
	table = listed([]int{0, 0, 0, 2}, []int{0, 2, 1, 2}, []int{1, 2, 1, 0})
	checkLarge(t, table, []int{1, 1, 0, 1}, []int{0, 2, 1, 2}, 2, []int{1, 2, 1, 0})
	// Variables 0 and 1 are tried before variables 1 and 2, which would lead to 1 0 0.
	table = listed([]int{1, 0, 0}, []int{1, 0, 2}, []int{1, 1, 2})
	checkLarge(t, table, []int{0, 1, 0}, []int{1, 1, 2}, 2, []int{1, 0, 2})
	// The first set that helps is taken, not the best one, which would lead to 2 0 0.
	table = listed([]int{0, 1, 1}, []int{2, 0, 0}, []int{2, 1, 2})
	checkLarge(t, table, []int{0, 0, 1}, []int{2, 1, 2}, 2, []int{0, 1, 1})
	checkLarge(t, table, []int{0, 0, 1}, []int{2, 1, 2}, 3, []int{2, 0, 0})
}

func TestBoundsRejectInvalidModels(t *testing.T) {
	for _, m := range invalidModels() {
		n := len(m.Domains)
		for _, obj := range [][]int{make([]int, n), slices.Repeat([]int{1}, n), {1}, nil} {
			for _, bound := range []int{-998, 0, 1, 1000} {
				checkNoBound(t, m, obj, bound)
			}
			for depth := -1; depth <= 5; depth++ {
				checkTreeBound(t, m, obj, depth, 0, false)
				checkLarge(t, m, obj, make([]int, n), depth, nil)
				checkLarge(t, m, obj, []int{0}, depth, nil)
			}
			for _, x := range [][]int{make([]int, n), {0}, nil} {
				checkGap(t, m, obj, x, 0, false)
			}
		}
		for _, free := range [][]int{nil, {0}, others(n, nil)} {
			checkNotAround(t, m, make([]int, n), free)
			checkNotAround(t, m, []int{0}, free)
			checkNotAround(t, m, nil, free)
		}
	}
}

func TestBoundsRejectInvalidObjectives(t *testing.T) {
	for n := 1; n <= 4; n++ {
		m := impl.Model{Domains: slices.Repeat([]int{63}, n)}
		failed := impl.Model{Domains: make([]int, n)}
		zeros := make([]int, n)
		for _, obj := range append(invalidObjectives(n), nil) {
			for _, bound := range []int{-998, 0, 1000} {
				checkNoBound(t, m, obj, bound)
				checkNoBound(t, failed, obj, bound)
			}
			for depth := range 5 {
				checkTreeBound(t, m, obj, depth, 0, false)
				checkTreeBound(t, impl.Model{Domains: slices.Repeat([]int{1}, n)}, obj, depth, 0, false)
			}
			checkGap(t, m, obj, zeros, 0, false)
			checkLarge(t, m, obj, zeros, n, nil)
			checkLarge(t, m, obj, zeros, 1, nil)
		}
	}
}

func TestDepthsAndSizesHaveLimits(t *testing.T) {
	for n := 1; n <= 4; n++ {
		m := impl.Model{Domains: slices.Repeat([]int{63}, n)}
		zeros, nines := make([]int, n), slices.Repeat([]int{-9}, n)
		checkTreeBounds(t, m, nines, -45*n, -45*n, -45*n, -45*n, -45*n)
		for _, depth := range append(extremeNumbers(), 5, 6, 64) {
			checkTreeBound(t, m, nines, depth, 0, false)
			checkTreeBound(t, impl.Model{Domains: slices.Repeat([]int{32}, n)}, nines, depth, 0, false)
		}
		for size := 1; size <= n; size++ {
			checkLarge(t, m, nines, zeros, size, slices.Repeat([]int{5}, n))
		}
		for _, size := range append(extremeNumbers(), 0, n+1, n+2, 5, 64) {
			checkLarge(t, m, nines, zeros, size, nil)
			checkLarge(t, m, zeros, zeros, size, nil)
		}
	}
}

func TestBoundsNeedSolutionsAndVariableSets(t *testing.T) {
	for n := 1; n <= 4; n++ {
		m := impl.Model{Domains: slices.Repeat([]int{31}, n)}
		zeros := make([]int, n)
		for _, x := range invalidAssignments(n) {
			checkGap(t, m, zeros, x, 0, false)
			checkGap(t, m, make([]int, len(x)), x, 0, false)
			checkLarge(t, m, zeros, x, 1, nil)
			checkLarge(t, m, zeros, x, n, nil)
			checkNotAround(t, m, x, nil)
			checkNotAround(t, m, x, []int{0})
			checkNotAround(t, m, x, others(n, nil))
		}
		for _, free := range invalidVariableSets(n) {
			checkNotAround(t, m, zeros, free)
			checkNotAround(t, impl.Model{Domains: zeros}, zeros, free)
		}
		fives := slices.Repeat([]int{5}, n)
		checkGap(t, m, zeros, fives, 0, false)
		checkLarge(t, m, zeros, fives, n, nil)
	}
	for _, m := range unsolvable() {
		zeros := make([]int, len(m.Domains))
		checkGap(t, m, zeros, zeros, 0, false)
		checkLarge(t, m, zeros, zeros, len(zeros), nil)
		checkTreeBound(t, m, zeros, 4, 0, false)
	}
	// A constraint is violated, at x or everywhere around it.
	checkLarge(t, atLeast(2, 7), []int{1, 1}, []int{3, 3}, 2, nil)
	checkLarge(t, pairwise(3, 7), []int{1, 1, 1}, []int{0, 0, 1}, 3, nil)
}

// boundLists calls all functions of the chapter that return lists.
func boundLists(m impl.Model, obj []int, x []int, size int) [][]int {
	searched, _ := impl.LargeNeighbourhoodSearch(m, obj, x, size)
	same, _ := impl.LargeNeighbourhoodSearch(m, make([]int, len(x)), x, size)
	return lists(searched, same)
}

func TestBoundsLeaveTheirArgumentsAlone(t *testing.T) {
	s := newSource(239)
	for range 300 {
		m, _, obj, x, size := s.searchable()
		m = roomy(m)
		n := len(m.Domains)
		// All lists have spare memory, which must stay as it is, too.
		x, obj = append(slices.Clone(x), 7, 8, 9)[:n], append(slices.Clone(obj), 7, 8, 9)[:n]
		free := append(s.variableSet(n), 7, 8, 9)
		free = free[:len(free)-3]
		memory := func() []int { return slices.Concat(x[:n+3], obj[:n+3], free[:len(free)+3]) }
		before, beforeLists := snapshot(m), memory()
		want := spoil(t, boundLists(m, obj, x, size))
		bound := s.nearBound(lists(x), obj)
		proof, ok := impl.ProveBound(m, obj, bound)
		wantProof := spoilProof(t, proof)
		plain := s.clause(n, 0, 3)
		step := marked(plain)
		impl.CheckBound(m, obj, bound, steps(step, nil))
		impl.TreeBound(m, obj, s.between(0, 4))
		impl.OptimalityGap(m, obj, x)
		part, _ := impl.Neighbourhood(m, x, free)
		kept := cloneModel(part)
		if overwrite(part) {
			t.Fatal("slices of the neighbourhood share memory")
		}
		if !sameModel(before, snapshot(m)) || !slices.Equal(memory(), beforeLists) || !isMarked(step, plain) {
			t.Fatal("an argument was changed, or shares memory with a result")
		}
		again, okAgain := impl.ProveBound(m, obj, bound)
		partAgain, _ := impl.Neighbourhood(m, x, free)
		if ok != okAgain || !sameProof(again, wantProof) || !sameModel(partAgain, kept) || !sameLists(boundLists(m, obj, x, size), want) {
			t.Fatal("a result is kept from call to call")
		}
	}
}

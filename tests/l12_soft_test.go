package tests

import (
	"slices"
	"testing"

	"loop.example/constraintsolver/impl"
)

// costOf is SoftCost by its definition, for valid arguments.
func costOf(soft []impl.Soft, x []int) int {
	cost := 0
	for _, s := range soft {
		if !holds(s.Constraint, x) {
			cost += s.Weight
		}
	}
	return cost
}

// firstLeast returns the first of the assignments with the smallest cost, and how many have that cost.
func firstLeast(list [][]int, cost func(x []int) int) ([]int, int) {
	var best []int
	ties := 0
	for _, x := range list {
		switch {
		case best == nil || cost(x) < cost(best):
			best, ties = x, 1
		case cost(x) == cost(best):
			ties++
		}
	}
	return best, ties
}

// hardestOf is Hardest by its definition, from all solutions.
func hardestOf(list [][]int, soft []impl.Soft) []int {
	var hardest []int
	for i, s := range soft {
		if !slices.ContainsFunc(list, func(x []int) bool { return holds(s.Constraint, x) }) {
			hardest = append(hardest, i)
		}
	}
	return hardest
}

// soft returns a valid list of soft constraints for n variables. Equal weights lead to ties, and wishes for single values
// often exclude each other.
func (s source) soft(n int) []impl.Soft {
	heaviest := 9
	if s.IntN(2) == 0 {
		heaviest = 2
	}
	var list []impl.Soft
	for range s.between(0, 4) {
		c := s.constraint(n)
		if s.IntN(2) == 0 {
			c = fixing(s.IntN(n), s.between(0, 5))
		}
		list = append(list, impl.Soft{Constraint: c, Weight: s.between(1, heaviest)})
	}
	return list
}

// wish returns the soft constraint that variable v has the value a.
func wish(v int, a int, weight int) impl.Soft {
	return impl.Soft{Constraint: fixing(v, a), Weight: weight}
}

// wishes lists soft constraints.
func wishes(list ...impl.Soft) []impl.Soft {
	return list
}

// full returns a model with the most constraints that it can have, none of which excludes anything.
func full(domains ...int) impl.Model {
	return impl.Model{Domains: domains, Constraints: slices.Repeat([]impl.Constraint{always()}, 6)}
}

// invalidSoft lists what is no list of soft constraints for two variables.
func invalidSoft() [][]impl.Soft {
	lists := [][]impl.Soft{{{}}, slices.Repeat(wishes(wish(0, 0, 1)), 5), slices.Repeat(wishes(wish(1, 1, 9)), 100)}
	for _, weight := range []int{0, 10, -1, -9, 11, 100, 1 << 32, 1<<32 + 1, smallestInt, largestInt} {
		lists = append(lists, wishes(wish(0, 1, weight)), wishes(wish(0, 1, 1), wish(1, 0, 9), wish(1, 1, weight)))
	}
	for _, c := range invalidConstraints() {
		bad := impl.Soft{Constraint: c, Weight: 1}
		lists = append(lists, wishes(bad), wishes(wish(0, 0, 3), bad), wishes(bad, wish(0, 0, 3)))
	}
	return lists
}

// checkCost reports soft constraints whose cost is not the wanted one.
func checkCost(t *testing.T, soft []impl.Soft, x []int, want int) {
	t.Helper()
	if got := impl.SoftCost(soft, x); got != want {
		t.Errorf("SoftCost(%+v, %v) = %d, want %d", soft, x, got, want)
	}
}

// checkSoft reports a model for which SolveSoft does not return the wanted solution, or one where there is none.
func checkSoft(t *testing.T, m impl.Model, soft []impl.Soft, want []int) {
	t.Helper()
	if x, ok := impl.SolveSoft(m, soft); !slices.Equal(x, want) || ok != (want != nil) {
		t.Errorf("SolveSoft(%+v, %+v) = %v, %v, want %v", m, soft, x, ok, want)
	}
}

// checkHardest reports a model for which Hardest does not return the wanted indices.
func checkHardest(t *testing.T, m impl.Model, soft []impl.Soft, want ...int) {
	t.Helper()
	if got := impl.Hardest(m, soft); !slices.Equal(got, want) {
		t.Errorf("Hardest(%+v, %+v) = %v, want %v", m, soft, got, want)
	}
}

func TestPromise45TheCostIsTheWeightOfWhatIsViolated(t *testing.T) {
	s := newSource(80)
	seen := map[bool]int{}
	for range 3000 {
		n := s.between(1, 4)
		soft, x := s.soft(n), s.list(n, 0, 5)
		checkCost(t, soft, x, costOf(soft, x))
		sum := 0
		for i, one := range soft {
			m := impl.Model{Domains: make([]int, n), Constraints: []impl.Constraint{one.Constraint}}
			isViolated := len(impl.Violated(m, x)) > 0
			seen[isViolated]++
			share := impl.SoftCost(soft[i:i+1], x)
			if isViolated && share != one.Weight || !isViolated && share != 0 {
				t.Fatalf("%+v contributes %d at %v", one, share, x)
			}
			sum += share
		}
		checkCost(t, soft, x, sum)
	}
	if seen[true] < 1000 || seen[false] < 1000 {
		t.Errorf("the soft constraints were not balanced: %v", seen)
	}
}

func TestCosts(t *testing.T) {
	for n := 1; n <= 4; n++ {
		for _, v := range []int{0, 5} {
			x := slices.Repeat([]int{v}, n)
			checkCost(t, nil, x, 0)
			checkCost(t, []impl.Soft{}, x, 0)
			checkCost(t, wishes(wish(n-1, v, 9)), x, 0)
			checkCost(t, wishes(wish(n-1, 3, 9)), x, 9)
		}
	}
	checkCost(t, wishes(wish(0, 1, 1), wish(1, 1, 2), wish(0, 2, 4), wish(1, 2, 8)), []int{1, 2}, 6)
	checkCost(t, wishes(wish(0, 1, 1), wish(1, 1, 2), wish(0, 2, 4), wish(1, 2, 8)), []int{3, 3}, 15)
	checkCost(t, wishes(wish(0, 1, 1), wish(1, 1, 2), wish(0, 2, 4), wish(1, 2, 8)), []int{2, 2}, 3)
	// A soft constraint counts as often as it is listed, up to the limit.
	checkCost(t, slices.Repeat(wishes(wish(0, 1, 9)), 4), []int{0}, 36)
	checkCost(t, slices.Repeat(wishes(wish(0, 1, 9)), 4), []int{1}, 0)
}

func TestSoftCostRejectsInvalidArguments(t *testing.T) {
	for _, soft := range invalidSoft() {
		checkCost(t, soft, []int{0, 0}, -1)
		checkCost(t, soft, []int{1, 1}, -1)
	}
	one := wishes(wish(0, 1, 2))
	for _, soft := range [][]impl.Soft{nil, {}, one} {
		for _, length := range []int{0, 5, 6, 100} {
			checkCost(t, soft, make([]int, length), -1)
		}
		for n := 1; n <= 4; n++ {
			for i := range n {
				for _, v := range []int{-1, 6, 7, -6, 63, 1 << 32, smallestInt, largestInt} {
					x := slices.Repeat([]int{1}, n)
					x[i] = v
					checkCost(t, soft, x, -1)
				}
			}
		}
	}
	// The number of values is the number of variables.
	for n := 1; n <= 4; n++ {
		for v := range 4 {
			want := 0
			if v >= n {
				want = -1
			}
			checkCost(t, wishes(wish(v, 3, 1)), slices.Repeat([]int{3}, n), want)
		}
	}
}

func TestPromise46SolveSoftMinimizesTheCost(t *testing.T) {
	s := newSource(81)
	seen := map[string]int{}
	for range 4000 {
		m := s.someModel()
		soft := s.soft(len(m.Domains))
		list := solutionsOf(m)
		want, ties := firstLeast(list, func(x []int) int { return costOf(soft, x) })
		checkSoft(t, m, soft, want)
		if want == nil {
			seen["none"]++
			continue
		}
		x, _ := impl.SolveSoft(m, soft)
		cost := impl.SoftCost(soft, x)
		if !impl.IsSolution(m, x) {
			t.Fatalf("SolveSoft(%+v, %+v) = %v is no solution", m, soft, x)
		}
		for _, y := range list {
			if c := impl.SoftCost(soft, y); c < cost || c == cost && slices.Compare(y, x) < 0 {
				t.Fatalf("SolveSoft(%+v, %+v) = %v, but %v is better", m, soft, x, y)
			}
		}
		if ties > 1 && !slices.Equal(x, list[0]) {
			seen["ties"]++
		}
		if cost > 0 && len(hardestOf(list, soft)) == 0 {
			seen["quarrel"]++
		}
	}
	if seen["none"] < 100 || seen["ties"] < 100 || seen["quarrel"] < 50 {
		t.Errorf("the models were not balanced: %v", seen)
	}
}

func TestSoftSolutionsAndTies(t *testing.T) {
	free := impl.Model{Domains: []int{63, 63}}
	checkSoft(t, free, nil, []int{0, 0})
	checkSoft(t, free, []impl.Soft{}, []int{0, 0})
	checkSoft(t, free, wishes(wish(1, 4, 1)), []int{0, 4})
	checkSoft(t, free, wishes(wish(0, 4, 1)), []int{4, 0})
	// Of wishes with the same weight the one with the smaller solution is met, whatever their order is.
	checkSoft(t, free, wishes(wish(0, 5, 3), wish(0, 2, 3)), []int{2, 0})
	checkSoft(t, free, wishes(wish(0, 2, 3), wish(0, 5, 3)), []int{2, 0})
	checkSoft(t, free, wishes(wish(0, 5, 4), wish(0, 2, 3)), []int{5, 0})
	// Several light wishes weigh as much as a heavy one, or more.
	checkSoft(t, free, wishes(wish(0, 5, 6), wish(0, 2, 3), wish(0, 2, 3)), []int{2, 0})
	checkSoft(t, free, wishes(wish(0, 1, 6), wish(0, 2, 3), wish(0, 2, 3)), []int{1, 0})
	checkSoft(t, free, wishes(wish(0, 1, 6), wish(0, 2, 3), wish(0, 2, 3), wish(0, 2, 1)), []int{2, 0})
	// What nothing can satisfy costs the same everywhere.
	checkSoft(t, free, wishes(impl.Soft{Constraint: never(), Weight: 9}, wish(1, 1, 1)), []int{0, 1})
	checkSoft(t, impl.Model{Domains: []int{62, 60}}, wishes(wish(0, 0, 9), wish(1, 0, 9)), []int{1, 2})
	// A wish that is impossible at the smallest values is worth leaving them, but not at the price of a heavier one.
	checkSoft(t, atLeast(2, 7), wishes(wish(1, 2, 2), wish(0, 3, 1)), []int{5, 2})
	checkSoft(t, atLeast(2, 7), wishes(wish(1, 2, 1), wish(0, 3, 2)), []int{3, 4})
	checkSoft(t, atLeast(2, 7), wishes(wish(1, 2, 1), wish(0, 3, 1)), []int{3, 4})
	checkSoft(t, atLeast(2, 7), wishes(wish(1, 1, 9), wish(0, 1, 9)), []int{2, 5})
	// Each two of the wishes can be met together, but not all of them.
	sum := impl.Constraint{Kind: impl.Linear, Vars: []int{0, 1}, Args: []int{1, 1}, Bound: 6}
	checkSoft(t, free, wishes(wish(0, 4, 5), wish(1, 3, 5), impl.Soft{Constraint: sum, Weight: 5}), []int{0, 3})
	checkSoft(t, free, wishes(wish(0, 4, 5), wish(1, 3, 4), impl.Soft{Constraint: sum, Weight: 5}), []int{4, 0})
	checkSoft(t, free, wishes(wish(0, 4, 5), wish(1, 3, 5), impl.Soft{Constraint: sum, Weight: 4}), []int{4, 3})
	checkSoft(t, pairwise(3, 7), wishes(wish(0, 2, 1), wish(1, 2, 1), wish(2, 2, 1)), []int{0, 1, 2})
	checkSoft(t, pairwise(3, 7), wishes(wish(0, 2, 2), wish(1, 2, 2), wish(2, 2, 1)), []int{0, 2, 1})
	// Soft constraints do not count as constraints of the model.
	checkSoft(t, full(63, 63, 63, 63), wishes(wish(0, 1, 1), wish(1, 2, 1), wish(2, 3, 1), wish(3, 4, 9)), []int{1, 2, 3, 4})
}

func TestModelsWithoutSolutionsHaveNoSoftSolution(t *testing.T) {
	for _, m := range []impl.Model{
		{Domains: []int{0, 0}},
		{Domains: []int{63, 0}},
		{Domains: []int{0, 63}},
		{Domains: []int{63, 63}, Constraints: []impl.Constraint{never()}},
		pairwise(4, 7),
	} {
		for _, soft := range [][]impl.Soft{nil, wishes(wish(0, 1, 1)), wishes(wish(0, 1, 9), wish(1, 0, 9)), slices.Repeat(wishes(wish(1, 1, 9)), 4)} {
			checkSoft(t, m, soft, nil)
			checkHardest(t, m, soft, indicesOf(1<<len(soft)-1)...)
		}
	}
}

func TestPromise47HardestListsTheSoftConstraintsThatCannotBeMet(t *testing.T) {
	s := newSource(82)
	counts := map[int]int{}
	for range 1500 {
		m := s.someModel()
		soft := s.soft(len(m.Domains))
		list := solutionsOf(m)
		want := hardestOf(list, soft)
		checkHardest(t, m, soft, want...)
		if len(list) == 0 && len(want) != len(soft) {
			t.Fatalf("Hardest(%+v, %+v) = %v, but there is no solution", m, soft, want)
		}
		if len(list) > 0 {
			counts[len(want)]++
		}
		for i, one := range soft {
			larger, ok := impl.WithConstraint(m, one.Constraint)
			if ok && (impl.CountSolutions(larger) == 0) != slices.Contains(impl.Hardest(m, soft), i) {
				t.Fatalf("Hardest(%+v, %+v) = %v", m, soft, impl.Hardest(m, soft))
			}
		}
	}
	if counts[0] < 100 || counts[1] < 100 || counts[2] < 50 || counts[3] < 10 || counts[4] < 5 {
		t.Errorf("the numbers of listed soft constraints were not varied: %v", counts)
	}
}

func TestHardest(t *testing.T) {
	impossible := impl.Soft{Constraint: never(), Weight: 1}
	free := impl.Model{Domains: []int{7, 63}}
	checkHardest(t, free, nil)
	checkHardest(t, free, []impl.Soft{})
	checkHardest(t, free, wishes(impossible), 0)
	checkHardest(t, free, slices.Repeat(wishes(impossible), 4), 0, 1, 2, 3)
	checkHardest(t, free, wishes(wish(0, 3, 9), wish(0, 2, 9), wish(1, 3, 1), wish(0, 5, 1)), 0, 3)
	// Wishes that exclude each other are not hard, as each one can be met alone.
	checkHardest(t, free, wishes(wish(0, 0, 1), wish(0, 1, 1), wish(0, 2, 1), impossible), 3)
	// Propagation keeps the values 0 and 1 of variable 2, but the other two variables need both of them.
	taken := pairwise(3, 7)
	taken.Domains[0], taken.Domains[1] = 3, 3
	checkHardest(t, taken, wishes(wish(2, 0, 1), wish(2, 2, 1), wish(0, 1, 1), wish(2, 1, 1)), 0, 3)
	checkHardest(t, atLeast(2, 7), wishes(wish(0, 1, 1), wish(1, 2, 1), wish(1, 1, 1)), 0, 2)
	// The model has no room for another constraint.
	checkHardest(t, full(7, 63), wishes(wish(0, 2, 1), wish(0, 3, 1), wish(1, 3, 1)), 1)
	crowded := pairwise(4, 15)
	checkHardest(t, crowded, wishes(wish(3, 0, 1), wish(3, 4, 1), impl.Soft{Constraint: impl.Constraint{Kind: impl.Count, Vars: []int{0, 1, 2, 3}, Args: []int{2}, Bound: 0}, Weight: 5}), 1, 2)
}

func TestSoftConstraintsRejectInvalidArguments(t *testing.T) {
	for _, m := range []impl.Model{{Domains: []int{63, 63}}, {Domains: []int{0, 63}}, full(3, 3)} {
		for _, soft := range invalidSoft() {
			checkSoft(t, m, soft, nil)
			checkHardest(t, m, soft)
		}
	}
	for n := 1; n <= 4; n++ {
		m := impl.Model{Domains: make([]int, n)}
		for v := range 4 {
			if v >= n {
				checkSoft(t, impl.Model{Domains: slices.Repeat([]int{63}, n)}, wishes(wish(v, 0, 1)), nil)
				checkHardest(t, m, wishes(wish(0, 0, 1), wish(v, 0, 1)))
			} else {
				checkHardest(t, m, wishes(wish(0, 0, 1), wish(v, 0, 1)), 0, 1)
			}
		}
	}
	for _, m := range invalidModels() {
		for _, soft := range [][]impl.Soft{nil, wishes(wish(0, 0, 1)), wishes(impl.Soft{Constraint: never(), Weight: 9})} {
			checkSoft(t, m, soft, nil)
			checkHardest(t, m, soft)
		}
	}
}

// softLists calls all functions of soft constraints that return lists.
func softLists(m impl.Model, soft []impl.Soft) [][]int {
	x, _ := impl.SolveSoft(m, soft)
	return lists(x, impl.Hardest(m, soft))
}

func TestSoftConstraintsLeaveTheirArgumentsAlone(t *testing.T) {
	s := newSource(83)
	for range 300 {
		m := roomy(s.someModel())
		n := len(m.Domains)
		// The soft constraints are kept in a model, which can tell whether they have changed.
		kept := impl.Model{Domains: s.list(n, 0, 5)}
		for _, one := range s.soft(n) {
			kept.Constraints = append(kept.Constraints, one.Constraint)
		}
		kept = roomy(kept)
		var soft []impl.Soft
		for _, c := range kept.Constraints {
			soft = append(soft, impl.Soft{Constraint: c, Weight: s.between(1, 9)})
		}
		before, beforeKept := snapshot(m), snapshot(kept)
		impl.SoftCost(soft, kept.Domains)
		want := spoil(t, softLists(m, soft))
		if !sameModel(before, snapshot(m)) || !sameModel(beforeKept, snapshot(kept)) {
			t.Fatal("an argument was changed, or shares memory with a result")
		}
		if !sameLists(softLists(m, soft), want) {
			t.Fatal("a result is kept from call to call")
		}
	}
}

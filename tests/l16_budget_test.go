package tests

import (
	"slices"
	"testing"

	"loop.example/constraintsolver/impl"
)

// lubySequence lists the elements 1 to 127 of the Luby sequence: again and again the list so far, once more the same, and
// the next power of 2.
func lubySequence() []int {
	var list []int
	for power := 1; len(list) < 127; power *= 2 {
		list = append(slices.Concat(list, list), power)
	}
	return list
}

// restartsOf is RestartsNeeded by its definition, given the number of nodes of the search.
func restartsOf(nodes int, unit int) int {
	return slices.IndexFunc(lubySequence(), func(element int) bool { return unit*element >= nodes }) + 1
}

// statusOf is the status of SolveWithin by its definition, given the result of the search.
func statusOf(x []int, nodes int, budget int) int {
	switch {
	case nodes > budget:
		return impl.StatusInterrupted
	case x == nil:
		return impl.StatusInfeasible
	}
	return impl.StatusSolved
}

// nextOf returns the first of the solutions, which are in order, that is greater than x, or nil.
func nextOf(list [][]int, x []int) []int {
	for _, y := range list {
		if slices.Compare(y, x) > 0 {
			return y
		}
	}
	return nil
}

// checkWithin reports a model for which SolveWithin does not return what is wanted.
func checkWithin(t *testing.T, m impl.Model, budget int, want []int, wantStatus int) {
	t.Helper()
	if x, status := impl.SolveWithin(m, budget); !slices.Equal(x, want) || status != wantStatus {
		t.Errorf("SolveWithin(%+v, %d) = %v, %d, want %v, %d", m, budget, x, status, want, wantStatus)
	}
}

// checkBudgets reports a model for which SolveWithin does not need exactly the given number of nodes.
func checkBudgets(t *testing.T, m impl.Model, want []int, nodes int) {
	t.Helper()
	for _, budget := range []int{0, 1, nodes / 2, nodes - 2, nodes - 1, nodes, nodes + 1, 2 * nodes, 4999, 5000} {
		if budget < 0 {
			continue
		}
		status := statusOf(want, nodes, budget)
		if status == impl.StatusInterrupted {
			checkWithin(t, m, budget, nil, status)
		} else {
			checkWithin(t, m, budget, want, status)
		}
	}
}

// checkRestarts reports a model for which RestartsNeeded is not the wanted number.
func checkRestarts(t *testing.T, m impl.Model, unit int, want int) {
	t.Helper()
	if got := impl.RestartsNeeded(m, unit); got != want {
		t.Errorf("RestartsNeeded(%+v, %d) = %d, want %d", m, unit, got, want)
	}
}

// checkNext reports an assignment behind which NextSolution does not find the wanted solution, or nil for none.
func checkNext(t *testing.T, m impl.Model, x []int, want []int) {
	t.Helper()
	if got, ok := impl.NextSolution(m, x); !slices.Equal(got, want) || ok != (want != nil) {
		t.Errorf("NextSolution(%+v, %v) = %v, %v, want %v", m, x, got, ok, want)
	}
}

func TestPromise61LubySequenceIsSelfSimilar(t *testing.T) {
	for k := 1; k <= 7; k++ {
		if got := impl.Luby(1<<k - 1); got != 1<<(k-1) {
			t.Errorf("Luby(%d) = %d, want %d", 1<<k-1, got, 1<<(k-1))
		}
		for i := 1 << k; i <= 1<<(k+1)-2 && i <= 127; i++ {
			if got, want := impl.Luby(i), impl.Luby(i-1<<k+1); got != want || got < 1 {
				t.Errorf("Luby(%d) = %d, want %d", i, got, want)
			}
		}
	}
}

func TestElementsOfTheLubySequence(t *testing.T) {
	if impl.MaxLuby != 127 || impl.MaxBudget != 5000 {
		t.Errorf("MaxLuby = %d, MaxBudget = %d", impl.MaxLuby, impl.MaxBudget)
	}
	sequence := lubySequence()
	if len(sequence) != 127 || !slices.Equal(sequence[:15], []int{1, 1, 2, 1, 1, 2, 4, 1, 1, 2, 1, 1, 2, 4, 8}) {
		t.Fatalf("the sequence of the test is wrong: %v", sequence)
	}
	for i, want := range sequence {
		if got := impl.Luby(i + 1); got != want {
			t.Errorf("Luby(%d) = %d, want %d", i+1, got, want)
		}
	}
	for _, i := range []int{smallestInt, smallestInt + 1, -127, -2, -1, 0, 128, 129, 254, 255, 1 << 32, 1<<32 + 1, largestInt - 1, largestInt} {
		if got := impl.Luby(i); got != 0 {
			t.Errorf("Luby(%d) = %d", i, got)
		}
	}
}

func TestStatusesHaveTheirNumbers(t *testing.T) {
	got := []int{impl.StatusInvalid, impl.StatusSolved, impl.StatusInfeasible, impl.StatusInterrupted}
	if !slices.Equal(got, []int{0, 1, 2, 3}) {
		t.Errorf("the statuses are %v", got)
	}
}

func TestPromise62BudgetChangesOnlyWhetherTheSearchFinishes(t *testing.T) {
	s := newSource(120)
	seen := map[int]int{}
	for range 600 {
		m := s.provable()
		want, nodes := impl.Solve(m)
		for _, budget := range []int{0, s.IntN(nodes + 1), nodes - 1, nodes, nodes + s.IntN(9), 5000} {
			x, status := impl.SolveWithin(m, budget)
			seen[status]++
			finishes := status == impl.StatusSolved && want != nil || status == impl.StatusInfeasible && want == nil
			if budget >= nodes && (!finishes || !slices.Equal(x, want)) {
				t.Fatalf("SolveWithin(%+v, %d) = %v, %d, but Solve = %v, %d", m, budget, x, status, want, nodes)
			}
			if budget < nodes && (status != impl.StatusInterrupted || len(x) != 0) {
				t.Fatalf("SolveWithin(%+v, %d) = %v, %d, but Solve needs %d nodes", m, budget, x, status, nodes)
			}
		}
	}
	if seen[impl.StatusSolved] < 200 || seen[impl.StatusInfeasible] < 200 || seen[impl.StatusInterrupted] < 200 {
		t.Errorf("the statuses were not balanced: %v", seen)
	}
}

func TestSolveWithinByItsDefinition(t *testing.T) {
	s := newSource(121)
	hard := map[bool]int{}
	for i := range 150 {
		m := s.hardModel()
		if i%3 == 0 {
			m = s.provable()
		}
		x, nodes := searched(m)
		if nodes > 60 {
			continue
		}
		checkBudgets(t, m, x, nodes)
		if nodes > 5 {
			hard[x != nil]++
		}
	}
	if hard[true] < 5 || hard[false] < 5 {
		t.Errorf("the models were too easy: more than 5 nodes only %v times", hard)
	}
}

func TestBudgetsThatAreJustSufficient(t *testing.T) {
	// The root is a node, so that a budget of 0 is never sufficient.
	checkBudgets(t, impl.Model{Domains: []int{4}}, []int{2}, 1)
	checkBudgets(t, impl.Model{Domains: []int{0}}, nil, 1)
	checkBudgets(t, impl.Model{Domains: []int{63, 0}}, nil, 1)
	checkBudgets(t, impl.Model{Domains: []int{63, 63, 63, 63}}, []int{0, 0, 0, 0}, 5)
	checkBudgets(t, pairwise(4, 60), []int{2, 3, 4, 5}, 4)
	// The search goes back to later values before it finds a solution.
	late := pairwise(3, 3)
	late.Domains[0] = 31
	checkBudgets(t, late, []int{2, 0, 1}, 5)
	// The last node fails like all others, and only then it is certain that there is no solution.
	checkBudgets(t, pairwise(3, 3), nil, 3)
	checkBudgets(t, pairwise(4, 7), nil, 10)
	checkBudgets(t, odd([]int{2, 1, 1}, 6), nil, 64)
	checkBudgets(t, odd([]int{0, 0, 0}, 0), nil, 259)
}

func TestSolveWithinRejectsInvalidArguments(t *testing.T) {
	m := impl.Model{Domains: []int{2, 4}}
	checkWithin(t, m, 1, []int{1, 2}, impl.StatusSolved)
	checkWithin(t, m, 5000, []int{1, 2}, impl.StatusSolved)
	for _, budget := range []int{smallestInt, -5000, -2, -1, 5001, 5002, 10000, 1 << 32, 1<<32 + 1, largestInt} {
		checkWithin(t, m, budget, nil, impl.StatusInvalid)
		checkWithin(t, impl.Model{Domains: []int{0}}, budget, nil, impl.StatusInvalid)
		checkWithin(t, pairwise(4, 7), budget, nil, impl.StatusInvalid)
	}
	for _, m := range invalidModels() {
		for _, budget := range []int{-1, 0, 1, 5000, 5001} {
			checkWithin(t, m, budget, nil, impl.StatusInvalid)
		}
	}
}

func TestPromise63RestartsWithLubyBudgetsFindTheSolution(t *testing.T) {
	s := newSource(122)
	later := 0
	for i := range 500 {
		m := s.provable()
		_, nodes := impl.Solve(m)
		unit := s.between(1, 1+i%9)
		k := impl.RestartsNeeded(m, unit)
		if k == 0 {
			if nodes <= 64*unit {
				t.Fatalf("RestartsNeeded(%+v, %d) = 0, but %d nodes are enough", m, unit, nodes)
			}
			continue
		}
		if _, status := impl.SolveWithin(m, unit*impl.Luby(k)); status != impl.StatusSolved && status != impl.StatusInfeasible {
			t.Fatalf("restart %d of %+v with the unit %d has the status %d", k, m, unit, status)
		}
		for earlier := 1; earlier < k; earlier++ {
			checkWithin(t, m, unit*impl.Luby(earlier), nil, impl.StatusInterrupted)
		}
		if k > 3 {
			later++
		}
	}
	if later < 20 {
		t.Errorf("only %d models needed more than three restarts", later)
	}
}

func TestRestartsByTheirDefinition(t *testing.T) {
	for _, c := range []struct {
		m     impl.Model
		nodes int
	}{
		{impl.Model{Domains: []int{4}}, 1},
		{impl.Model{Domains: []int{0}}, 1},
		{pairwise(2, 3), 2},
		{pairwise(3, 7), 3},
		{pairwise(4, 60), 4},
		{impl.Model{Domains: []int{63, 63, 63, 63}}, 5},
		{pairwise(4, 7), 10},
		{odd([]int{2, 1, 1}, 6), 64},
		{odd([]int{1, 3, 1}, 7), 65},
		{odd([]int{3, 2, 1}, 14), 128},
		{odd([]int{1, 3, 3}, 16), 129},
		{odd([]int{0, 0, 0}, 0), 259},
	} {
		if _, nodes := impl.Solve(c.m); nodes != c.nodes {
			t.Errorf("Solve(%+v) visits %d nodes, want %d", c.m, nodes, c.nodes)
		}
		for _, unit := range []int{1, 2, 3, 4, 5, 8, 16, 32, 64, 65, 128, 129, 258, 259, 1000, 4999, 5000} {
			checkRestarts(t, c.m, unit, restartsOf(c.nodes, unit))
		}
	}
}

func TestRestartsNeeded(t *testing.T) {
	// 64 is the largest element up to 127, and comes last.
	checkRestarts(t, odd([]int{2, 1, 1}, 6), 1, 127)
	checkRestarts(t, odd([]int{1, 3, 1}, 7), 1, 0)
	checkRestarts(t, odd([]int{3, 2, 1}, 14), 2, 127)
	checkRestarts(t, odd([]int{1, 3, 3}, 16), 2, 0)
	// Budgets that are just sufficient, and one too small.
	checkRestarts(t, odd([]int{0, 0, 0}, 0), 259, 1)
	checkRestarts(t, odd([]int{0, 0, 0}, 0), 258, 3)
	checkRestarts(t, pairwise(4, 7), 10, 1)
	checkRestarts(t, pairwise(4, 7), 9, 3)
	checkRestarts(t, pairwise(4, 7), 5, 3)
	checkRestarts(t, pairwise(4, 7), 4, 7)
	checkRestarts(t, pairwise(4, 7), 3, 7)
	checkRestarts(t, pairwise(4, 7), 2, 15)
	checkRestarts(t, pairwise(4, 7), 1, 31)
}

func TestRestartsNeededRejectsInvalidArguments(t *testing.T) {
	m := impl.Model{Domains: []int{2, 4}}
	checkRestarts(t, m, 1, 1)
	checkRestarts(t, m, 5000, 1)
	for _, unit := range []int{smallestInt, -5000, -2, -1, 0, 5001, 5002, 10000, 1 << 32, 1<<32 + 1, 1 << 58, 1 << 62, largestInt} {
		checkRestarts(t, m, unit, 0)
		checkRestarts(t, pairwise(4, 7), unit, 0)
	}
	for _, m := range invalidModels() {
		for _, unit := range []int{-1, 0, 1, 5000, 5001} {
			checkRestarts(t, m, unit, 0)
		}
	}
}

// someAssignments returns assignments of n variables: the first and the last one, each of the list with its neighbours,
// and others.
func (s source) someAssignments(n int, list [][]int) [][]int {
	found := lists(make([]int, n), slices.Repeat([]int{5}, n))
	for _, x := range list {
		for i := range n {
			for _, v := range []int{x[i] - 1, x[i], x[i] + 1} {
				if y := slices.Clone(x); v >= 0 && v <= 5 {
					y[i] = v
					found = append(found, y)
				}
			}
		}
	}
	for range 20 {
		found = append(found, s.list(n, 0, 5))
	}
	return found
}

func TestPromise64EnumerationCanBeResumedAnywhere(t *testing.T) {
	s := newSource(123)
	last, outside := 0, 0
	for range 250 {
		m := s.someModel()
		list := solutionsOf(m)
		for _, x := range s.someAssignments(len(m.Domains), list[:min(len(list), 8)]) {
			want := nextOf(list, x)
			checkNext(t, m, x, want)
			if want == nil && len(list) > 0 {
				last++
			}
			if want != nil && !inDomains(m, x) {
				outside++
			}
		}
		if t.Failed() {
			return
		}
	}
	if last < 200 || outside < 200 {
		t.Errorf("only %d assignments were behind all solutions, and %d outside the domains", last, outside)
	}
}

func TestPromise64NextSolutionsAreAllSolutions(t *testing.T) {
	s := newSource(124)
	for range 100 {
		m := s.provable()
		list := solutionsOf(m)
		zeros := make([]int, len(m.Domains))
		var found [][]int
		if impl.IsSolution(m, zeros) {
			found = append(found, zeros)
		}
		for x, ok := impl.NextSolution(m, zeros); ok; x, ok = impl.NextSolution(m, x) {
			found = append(found, x)
		}
		if !sameLists(found, list) {
			t.Fatalf("the solutions of %+v are %v, not %v", m, list, found)
		}
	}
}

func TestNextSolutions(t *testing.T) {
	m := pairwise(3, 7)
	checkNext(t, m, []int{0, 0, 0}, []int{0, 1, 2})
	checkNext(t, m, []int{0, 1, 1}, []int{0, 1, 2})
	// The assignment itself is not greater than itself.
	checkNext(t, m, []int{0, 1, 2}, []int{0, 2, 1})
	checkNext(t, m, []int{0, 2, 1}, []int{1, 0, 2})
	checkNext(t, m, []int{0, 5, 5}, []int{1, 0, 2})
	checkNext(t, m, []int{2, 0, 5}, []int{2, 1, 0})
	checkNext(t, m, []int{2, 1, 0}, nil)
	checkNext(t, m, []int{5, 0, 0}, nil)
	checkNext(t, pairwise(4, 7), []int{0, 0, 0, 0}, nil)
	// The values need not be in the domains, not even if there is only one assignment in them.
	checkNext(t, impl.Model{Domains: []int{4, 8}}, []int{2, 2}, []int{2, 3})
	checkNext(t, impl.Model{Domains: []int{4, 8}}, []int{0, 5}, []int{2, 3})
	checkNext(t, impl.Model{Domains: []int{4, 8}}, []int{2, 3}, nil)
	checkNext(t, impl.Model{Domains: []int{0}}, []int{0}, nil)
	checkNext(t, impl.Model{Domains: []int{63, 0}}, []int{0, 0}, nil)
	checkNext(t, impl.Model{Domains: []int{63, 63, 63, 63}}, []int{0, 0, 0, 0}, []int{0, 0, 0, 1})
	checkNext(t, impl.Model{Domains: []int{63, 63, 63, 63}}, []int{4, 5, 5, 5}, []int{5, 0, 0, 0})
	checkNext(t, impl.Model{Domains: []int{63, 63, 63, 63}}, []int{5, 5, 5, 5}, nil)
}

func TestNextSolutionRejectsInvalidArguments(t *testing.T) {
	for n := 1; n <= 4; n++ {
		m := impl.Model{Domains: slices.Repeat([]int{63}, n)}
		for _, x := range invalidAssignments(n) {
			checkNext(t, m, x, nil)
		}
	}
	for _, m := range invalidModels() {
		checkNext(t, m, make([]int, len(m.Domains)), nil)
		checkNext(t, m, []int{0}, nil)
		checkNext(t, m, nil, nil)
	}
}

// budgetLists calls all functions of budgets that return lists.
func budgetLists(m impl.Model, x []int) [][]int {
	solved, _ := impl.SolveWithin(m, 5000)
	next, _ := impl.NextSolution(m, x)
	interrupted, _ := impl.SolveWithin(m, 1)
	return lists(solved, next, interrupted)
}

func TestBudgetsLeaveTheirArgumentsAlone(t *testing.T) {
	s := newSource(125)
	for range 300 {
		m := roomy(s.easyModel())
		n := len(m.Domains)
		x := s.list(n+3, 0, 5)[:n]
		before, beforeX := snapshot(m), slices.Clone(x[:n+3])
		want := spoil(t, budgetLists(m, x))
		impl.RestartsNeeded(m, 1)
		if !sameModel(before, snapshot(m)) || !slices.Equal(x[:n+3], beforeX) {
			t.Fatal("an argument was changed, or shares memory with a result")
		}
		if !sameLists(budgetLists(m, x), want) {
			t.Fatal("a result is kept from call to call")
		}
	}
}

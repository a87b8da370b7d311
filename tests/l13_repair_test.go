package tests

import (
	"slices"
	"testing"

	"loop.example/constraintsolver/impl"
)

// differences is Distance by its definition, for lists of the same length.
func differences(a []int, b []int) int {
	n := 0
	for i := range a {
		if a[i] != b[i] {
			n++
		}
	}
	return n
}

// agreeing returns the assignments that agree with x on all of the variables.
func agreeing(list [][]int, x []int, variables []int) [][]int {
	var found [][]int
	for _, y := range list {
		if !slices.ContainsFunc(variables, func(v int) bool { return y[v] != x[v] }) {
			found = append(found, y)
		}
	}
	return found
}

// others returns the variables below n that are not in the list.
func others(n int, list []int) []int {
	var rest []int
	for v := range n {
		if !slices.Contains(list, v) {
			rest = append(rest, v)
		}
	}
	return rest
}

// repairedOf is Repair by its definition, from all solutions, with the number of solutions that are as near.
func repairedOf(list [][]int, old []int, frozen []int) ([]int, int) {
	return firstLeast(agreeing(list, old, frozen), func(x []int) int { return differences(x, old) })
}

// improvedOf is Improve by its definition, from all solutions.
func improvedOf(list [][]int, obj []int, x []int, free []int) []int {
	best, _ := firstBest(agreeing(list, x, others(len(x), free)), obj)
	return best
}

// roundOf performs one round of LocalSearch by its definition, from all solutions.
func roundOf(list [][]int, obj []int, x []int) []int {
	for i := range x {
		for j := range x {
			if i < j {
				x = improvedOf(list, obj, x, []int{i, j})
			}
		}
	}
	return x
}

// locallyBestOf is LocalSearch by its definition, from all solutions, with the number of rounds.
func locallyBestOf(list [][]int, obj []int, x []int) ([]int, int) {
	for rounds := 1; ; rounds++ {
		y := roundOf(list, obj, x)
		if slices.Equal(x, y) {
			return x, rounds
		}
		x = y
	}
}

// variables returns at most four variables below n, often with repetitions.
func (s source) variables(n int) []int {
	return s.list(s.between(0, 4), 0, n-1)
}

// solved returns a model with solutions, and the solutions.
func (s source) solved() (impl.Model, [][]int) {
	for {
		m := s.someModel()
		if list := solutionsOf(m); len(list) > 0 {
			return m, list
		}
	}
}

// rugged returns a model with few solutions among many values, so that there are local optima.
func (s source) rugged() (impl.Model, [][]int) {
	n := s.between(2, 4)
	m := impl.Model{Domains: slices.Repeat([]int{63}, n)}
	rows := s.rows(8, n, 0, 2)
	m.Constraints = []impl.Constraint{{Kind: impl.Table, Vars: s.Perm(n), Rows: rows}}
	return m, solutionsOf(m)
}

// listed returns a model whose solutions are the rows.
func listed(rows ...[]int) impl.Model {
	n := len(rows[0])
	table := impl.Constraint{Kind: impl.Table, Vars: others(n, nil), Rows: rows}
	return impl.Model{Domains: slices.Repeat([]int{63}, n), Constraints: []impl.Constraint{table}}
}

// invalidVariableLists lists what is no list of at most four variables below n.
func invalidVariableLists(n int) [][]int {
	lists := [][]int{slices.Repeat([]int{0}, 5), slices.Repeat([]int{n - 1}, 5), slices.Repeat([]int{0}, 100), {0, 1 % n, 2 % n, 3 % n, 0}}
	for _, v := range []int{-1, n, n + 1, 4, 6, 63, 64, 1 << 32, smallestInt, largestInt} {
		lists = append(lists, []int{v}, []int{0, v}, []int{v, n - 1}, []int{0, n - 1, 0, v})
	}
	return lists
}

// invalidAssignments lists what is no assignment of n variables.
func invalidAssignments(n int) [][]int {
	lists := [][]int{nil, {}, make([]int, n-1), make([]int, n+1), make([]int, 100)}
	for i := range n {
		for _, v := range []int{-1, -2, 6, 7, 63, 64, 1 << 32, smallestInt, largestInt} {
			x := make([]int, n)
			x[i] = v
			lists = append(lists, x)
		}
	}
	return lists
}

// checkDistance reports lists whose Distance is not the wanted one, in either order.
func checkDistance(t *testing.T, a []int, b []int, want int) {
	t.Helper()
	if got := impl.Distance(a, b); got != want {
		t.Errorf("Distance(%v, %v) = %d, want %d", a, b, got, want)
	}
	if got := impl.Distance(b, a); got != want {
		t.Errorf("Distance(%v, %v) = %d, want %d", b, a, got, want)
	}
}

// checkRepair reports a model for which Repair does not return the wanted solution, or one where there is none.
func checkRepair(t *testing.T, m impl.Model, old []int, frozen []int, want []int) {
	t.Helper()
	if x, ok := impl.Repair(m, old, frozen); !slices.Equal(x, want) || ok != (want != nil) {
		t.Errorf("Repair(%+v, %v, %v) = %v, %v, want %v", m, old, frozen, x, ok, want)
	}
}

// checkImprove reports a model for which Improve does not return the wanted solution, or succeeds if none is wanted.
func checkImprove(t *testing.T, m impl.Model, obj []int, x []int, free []int, want []int) {
	t.Helper()
	if y, ok := impl.Improve(m, obj, x, free); !slices.Equal(y, want) || ok != (want != nil) {
		t.Errorf("Improve(%+v, %v, %v, %v) = %v, %v, want %v", m, obj, x, free, y, ok, want)
	}
}

// checkSearch reports a model for which LocalSearch does not return the wanted solution, or succeeds if none is wanted.
func checkSearch(t *testing.T, m impl.Model, obj []int, x []int, want []int) {
	t.Helper()
	if y, ok := impl.LocalSearch(m, obj, x); !slices.Equal(y, want) || ok != (want != nil) {
		t.Errorf("LocalSearch(%+v, %v, %v) = %v, %v, want %v", m, obj, x, y, ok, want)
	}
}

func TestPromise48DistanceIsAMetric(t *testing.T) {
	s := newSource(90)
	for range 3000 {
		n := s.between(0, 6)
		a, b, c := s.list(n, -1, 1), s.list(n, -1, 1), s.list(n, -1, 1)
		ab, bc, ac := impl.Distance(a, b), impl.Distance(b, c), impl.Distance(a, c)
		checkDistance(t, a, b, differences(a, b))
		if (ab == 0) != slices.Equal(a, b) || ac > ab+bc {
			t.Fatalf("the distances of %v, %v and %v are %d, %d and %d", a, b, c, ab, bc, ac)
		}
		checkDistance(t, a, a, 0)
		checkDistance(t, a, slices.Clone(a), 0)
	}
	// The lists need not be assignments.
	checkDistance(t, nil, nil, 0)
	checkDistance(t, nil, []int{}, 0)
	checkDistance(t, []int{smallestInt, largestInt, 0}, []int{largestInt, smallestInt, 0}, 2)
	checkDistance(t, []int{1, 2, 3}, []int{3, 1, 2}, 3)
	checkDistance(t, make([]int, 1000), slices.Repeat([]int{0, 1}, 500), 500)
	checkDistance(t, []int{1 << 32}, []int{0}, 1)
}

func TestListsOfDifferentLengthsHaveNoDistance(t *testing.T) {
	for n := range 8 {
		for k := range n {
			checkDistance(t, make([]int, n), make([]int, k), -1)
		}
		checkDistance(t, make([]int, n+1), nil, -1)
		checkDistance(t, make([]int, n), make([]int, 1000), -1)
	}
	checkDistance(t, []int{1, 2}, []int{1, 2, 2}, -1)
	checkDistance(t, []int{1, 2}, []int{3}, -1)
}

func TestPromise49RepairChangesAsLittleAsPossible(t *testing.T) {
	s := newSource(91)
	seen := map[string]int{}
	for range 3000 {
		m := s.someModel()
		n := len(m.Domains)
		old, frozen, list := s.list(n, 0, 5), s.variables(n), solutionsOf(m)
		if len(list) > 0 && s.IntN(3) == 0 {
			old = slices.Clone(list[s.IntN(len(list))])
			old[s.IntN(n)] = s.between(0, 5)
		}
		want, ties := repairedOf(list, old, frozen)
		checkRepair(t, m, old, frozen, want)
		x, ok := impl.Repair(m, old, frozen)
		if !ok {
			if len(list) > 0 {
				seen["frozen"]++
			}
			continue
		}
		if !impl.IsSolution(m, x) || len(agreeing(lists(x), old, frozen)) == 0 {
			t.Fatalf("Repair(%+v, %v, %v) = %v", m, old, frozen, x)
		}
		for _, y := range agreeing(list, old, frozen) {
			if impl.Distance(y, old) < impl.Distance(x, old) {
				t.Fatalf("Repair(%+v, %v, %v) = %v, but %v is nearer", m, old, frozen, x, y)
			}
		}
		if impl.IsSolution(m, old) {
			checkRepair(t, m, old, frozen, old)
			seen["unchanged"]++
		} else if ties > 1 {
			seen["ties"]++
		}
		if slices.Sort(frozen); len(slices.Compact(slices.Clone(frozen))) < len(frozen) {
			seen["repeated"]++
		}
	}
	for _, sort := range []string{"frozen", "unchanged", "ties", "repeated"} {
		if seen[sort] < 100 {
			t.Errorf("the plans were not balanced: %v", seen)
		}
	}
}

func TestPromise49SolutionsAreTheirOwnRepair(t *testing.T) {
	s := newSource(92)
	for range 100 {
		m, list := s.solved()
		for _, x := range list[:min(len(list), 30)] {
			checkRepair(t, m, x, nil, x)
			checkRepair(t, m, x, s.variables(len(x)), x)
			checkRepair(t, m, x, others(len(x), nil), x)
		}
	}
}

func TestRepairsAndTies(t *testing.T) {
	free := impl.Model{Domains: []int{7, 56}}
	checkRepair(t, free, []int{2, 3}, nil, []int{2, 3})
	// The old plan need not be in the domains. How far a value is from the old one does not matter.
	checkRepair(t, free, []int{5, 5}, nil, []int{0, 5})
	checkRepair(t, free, []int{5, 0}, nil, []int{0, 3})
	checkRepair(t, free, []int{2, 2}, nil, []int{2, 3})
	checkRepair(t, free, []int{2, 2}, []int{0}, []int{2, 3})
	checkRepair(t, free, []int{2, 2}, []int{1}, nil)
	checkRepair(t, free, []int{5, 5}, []int{0}, nil)
	// One of two variables has to change; of all ways to do so, the first one is chosen, below the old plan or above.
	checkRepair(t, atLeast(2, 7), []int{3, 3}, nil, []int{3, 4})
	checkRepair(t, atLeast(2, 7), []int{4, 2}, nil, []int{4, 3})
	checkRepair(t, atLeast(2, 7), []int{1, 3}, nil, []int{4, 3})
	checkRepair(t, atLeast(2, 7), []int{1, 1}, nil, []int{2, 5})
	checkRepair(t, atLeast(2, 7), []int{3, 3}, []int{1}, []int{4, 3})
	checkRepair(t, pairwise(3, 7), []int{2, 2, 1}, nil, []int{0, 2, 1})
	checkRepair(t, pairwise(3, 7), []int{0, 0, 1}, nil, []int{0, 2, 1})
	checkRepair(t, pairwise(3, 7), []int{0, 0, 1}, []int{1}, []int{2, 0, 1})
	checkRepair(t, pairwise(3, 7), []int{0, 0, 1}, []int{1, 0}, nil)
	checkRepair(t, pairwise(3, 7), []int{1, 1, 1}, nil, []int{0, 1, 2})
	checkRepair(t, pairwise(3, 7), []int{1, 1, 1}, []int{2}, []int{0, 2, 1})
	// A nearer solution comes later than one that changes more.
	rows := [][]int{{0, 0, 0}, {1, 0, 3}, {2, 3, 3}, {3, 3, 0}}
	table := listed(rows...)
	checkRepair(t, table, []int{3, 3, 3}, nil, rows[2])
	checkRepair(t, table, []int{3, 3, 3}, []int{0}, rows[3])
	checkRepair(t, table, []int{4, 0, 4}, nil, rows[0])
	checkRepair(t, table, []int{4, 0, 3}, nil, rows[1])
	checkRepair(t, table, []int{4, 4, 4}, nil, rows[0])
	// There is no solution, frozen or not.
	checkRepair(t, impl.Model{Domains: []int{63, 0}}, []int{0, 0}, nil, nil)
	checkRepair(t, pairwise(4, 7), []int{0, 1, 2, 0}, nil, nil)
	checkRepair(t, pairwise(4, 7), []int{0, 1, 2, 0}, []int{0, 1, 2}, nil)
}

func TestFrozenVariablesMayBeRepeated(t *testing.T) {
	m := pairwise(3, 7)
	checkRepair(t, m, []int{1, 1, 2}, []int{0}, []int{1, 0, 2})
	checkRepair(t, m, []int{1, 1, 2}, []int{0, 0}, []int{1, 0, 2})
	checkRepair(t, m, []int{1, 1, 2}, []int{0, 0, 0, 0}, []int{1, 0, 2})
	checkRepair(t, m, []int{1, 1, 2}, []int{1, 2, 1, 2}, []int{0, 1, 2})
	checkRepair(t, m, []int{1, 1, 2}, []int{2, 0, 2, 0}, []int{1, 0, 2})
	checkRepair(t, m, []int{1, 1, 2}, []int{0, 1, 0, 1}, nil)
	// The limit is one of elements, not of different ones, and does not depend on the number of variables.
	checkRepair(t, m, []int{1, 1, 2}, []int{0, 0, 0, 0, 0}, nil)
	checkRepair(t, m, []int{0, 1, 2}, []int{0, 1, 2, 0}, []int{0, 1, 2})
	checkRepair(t, m, []int{0, 1, 2}, []int{0, 1, 2, 0, 1}, nil)
	one := impl.Model{Domains: []int{6}}
	checkRepair(t, one, []int{2}, []int{0, 0, 0, 0}, []int{2})
	checkRepair(t, one, []int{0}, []int{0, 0, 0, 0}, nil)
	checkRepair(t, one, []int{0}, nil, []int{1})
	checkRepair(t, one, []int{2}, []int{0, 0, 0, 0, 0}, nil)
	checkRepair(t, impl.Model{Domains: []int{63, 63, 63, 63}}, []int{5, 4, 3, 2}, []int{3, 2, 1, 0}, []int{5, 4, 3, 2})
}

func TestRepairRejectsInvalidArguments(t *testing.T) {
	for n := 1; n <= 4; n++ {
		m := impl.Model{Domains: slices.Repeat([]int{63}, n)}
		zeros := make([]int, n)
		checkRepair(t, m, zeros, nil, zeros)
		for _, frozen := range invalidVariableLists(n) {
			checkRepair(t, m, zeros, frozen, nil)
		}
		for _, old := range invalidAssignments(n) {
			checkRepair(t, m, old, nil, nil)
			checkRepair(t, m, old, []int{0}, nil)
			checkRepair(t, m, old, []int{n - 1}, nil)
		}
	}
	for _, m := range invalidModels() {
		checkRepair(t, m, make([]int, len(m.Domains)), nil, nil)
		checkRepair(t, m, []int{0}, []int{0}, nil)
		checkRepair(t, m, nil, nil, nil)
	}
}

func TestPromise50ImproveNeverMakesASolutionWorse(t *testing.T) {
	s := newSource(93)
	seen := map[string]int{}
	for range 2000 {
		m, list := s.solved()
		n := len(m.Domains)
		obj, x, free := s.objective(n), list[s.IntN(len(list))], s.variables(n)
		checkImprove(t, m, obj, x, free, improvedOf(list, obj, x, free))
		y, ok := impl.Improve(m, obj, x, free)
		if !ok || !impl.IsSolution(m, y) || len(agreeing(lists(y), x, others(n, free))) == 0 {
			t.Fatalf("Improve(%+v, %v, %v, %v) = %v, %v", m, obj, x, free, y, ok)
		}
		switch before, after := impl.ObjectiveValue(obj, x), impl.ObjectiveValue(obj, y); {
		case after > before:
			t.Fatalf("Improve(%+v, %v, %v, %v) = %v is worse", m, obj, x, free, y)
		case after < before:
			seen["better"]++
		case slices.Equal(x, y):
			seen["unchanged"]++
		default:
			seen["earlier"]++
		}
		if best, _ := impl.Minimize(m, obj); !slices.Equal(y, best) {
			seen["held"]++
		}
		best, _ := impl.Minimize(m, obj)
		checkImprove(t, m, obj, x, s.Perm(n), best)
		checkImprove(t, m, obj, x, nil, x)
		checkImprove(t, m, obj, x, []int{}, x)
	}
	for _, sort := range []string{"better", "unchanged", "earlier", "held"} {
		if seen[sort] < 50 {
			t.Errorf("the solutions were not balanced: %v", seen)
		}
	}
}

func TestImprovementsAndTies(t *testing.T) {
	free := impl.Model{Domains: []int{63, 63, 63}}
	checkImprove(t, free, []int{1, 1, -1}, []int{3, 3, 3}, []int{0}, []int{0, 3, 3})
	checkImprove(t, free, []int{1, 1, -1}, []int{3, 3, 3}, []int{2}, []int{3, 3, 5})
	checkImprove(t, free, []int{1, 1, -1}, []int{3, 3, 3}, []int{2, 0}, []int{0, 3, 5})
	// Without influence on the value, a free variable gets its smallest value.
	checkImprove(t, free, []int{0, 0, 0}, []int{3, 3, 3}, []int{1}, []int{3, 0, 3})
	checkImprove(t, free, []int{0, -1, 0}, []int{3, 3, 3}, []int{1, 2}, []int{3, 5, 0})
	checkImprove(t, atLeast(2, 7), []int{1, 1}, []int{5, 2}, []int{0, 1}, []int{2, 5})
	checkImprove(t, atLeast(2, 7), []int{1, 1}, []int{5, 2}, []int{0}, []int{5, 2})
	checkImprove(t, atLeast(2, 7), []int{1, 1}, []int{5, 4}, []int{0}, []int{3, 4})
	// Variables that are free twice are free.
	checkImprove(t, free, []int{1, 1, 1}, []int{3, 3, 3}, []int{1, 1, 1, 1}, []int{3, 0, 3})
	checkImprove(t, free, []int{1, 1, 1}, []int{3, 3, 3}, []int{1, 0, 0, 1}, []int{0, 0, 3})
	checkImprove(t, free, []int{1, 1, 1}, []int{3, 3, 3}, []int{0, 1, 2, 0}, []int{0, 0, 0})
	checkImprove(t, free, []int{1, 1, 1}, []int{3, 3, 3}, []int{1, 1, 1, 1, 1}, nil)
	one := impl.Model{Domains: []int{63}}
	checkImprove(t, one, []int{-9}, []int{3}, []int{0, 0, 0, 0}, []int{5})
	checkImprove(t, one, []int{-9}, []int{3}, []int{0, 0, 0, 0, 0}, nil)
	checkImprove(t, one, []int{-9}, []int{3}, nil, []int{3})
}

func TestPromise51LocalSearchEndsInALocalOptimum(t *testing.T) {
	s := newSource(94)
	seen := map[string]int{}
	for i := range 1200 {
		m, list := s.rugged()
		if i%2 == 0 {
			m, list = s.solved()
		}
		n := len(m.Domains)
		obj, x := s.objective(n), list[s.IntN(len(list))]
		want, rounds := locallyBestOf(list, obj, x)
		checkSearch(t, m, obj, x, want)
		y, ok := impl.LocalSearch(m, obj, x)
		if !ok || !impl.IsSolution(m, y) || impl.ObjectiveValue(obj, y) > impl.ObjectiveValue(obj, x) {
			t.Fatalf("LocalSearch(%+v, %v, %v) = %v, %v", m, obj, x, y, ok)
		}
		for j := range n {
			for i := range j {
				checkImprove(t, m, obj, y, []int{i, j}, y)
			}
		}
		checkSearch(t, m, obj, y, y)
		if rounds > 2 {
			seen["rounds"]++
		}
		if best, _ := firstBest(list, obj); n > 1 && valueAt(obj, best) < valueAt(obj, y) {
			seen["local"]++
		}
	}
	if seen["rounds"] < 20 || seen["local"] < 50 {
		t.Errorf("the searches were not balanced: %v", seen)
	}
}

func TestLocalSearches(t *testing.T) {
	free := impl.Model{Domains: []int{63, 63, 63, 63}}
	checkSearch(t, free, []int{1, 1, 1, 1}, []int{5, 4, 3, 2}, []int{0, 0, 0, 0})
	checkSearch(t, free, []int{-1, 0, 1, -9}, []int{1, 2, 3, 4}, []int{5, 0, 0, 5})
	checkSearch(t, free, []int{0, 0, 0, 0}, []int{5, 5, 5, 5}, []int{0, 0, 0, 0})
	// There are no pairs of one variable, so nothing changes.
	for v := range 6 {
		for _, coefficient := range []int{-9, 0, 1} {
			checkSearch(t, impl.Model{Domains: []int{63}}, []int{coefficient}, []int{v}, []int{v})
		}
	}
	checkSearch(t, atLeast(2, 7), []int{1, 1}, []int{5, 5}, []int{2, 5})
	// All three variables would have to change at once.
	rows := [][]int{{0, 0, 0}, {1, 1, 1}, {1, 2, 2}}
	table := listed(rows...)
	checkSearch(t, table, []int{1, 1, 1}, rows[2], rows[1])
	checkSearch(t, table, []int{1, 1, 1}, rows[1], rows[1])
	checkSearch(t, table, []int{-1, -1, -1}, rows[0], rows[0])
	checkSearch(t, table, []int{-1, -1, -1}, rows[1], rows[2])
}

func TestRoundsOfLocalSearch(t *testing.T) {
	// The first round ends at 1 1 0 1.
	table := listed([]int{1, 1, 0, 1}, []int{1, 1, 1, 1}, []int{1, 1, 1, 2}, []int{2, 1, 0, 0}, []int{2, 2, 1, 0}, []int{2, 2, 2, 0})
	checkSearch(t, table, []int{0, 0, 0, 1}, []int{1, 1, 1, 2}, []int{2, 1, 0, 0})
	// A round goes on after a change. Beginning again with the first pair would lead to 2 0 2 2.
	table = listed([]int{0, 1, 0, 1}, []int{1, 1, 2, 0}, []int{1, 1, 2, 2}, []int{2, 0, 2, 2}, []int{2, 1, 0, 2}, []int{2, 2, 2, 0})
	checkSearch(t, table, []int{0, 1, 0, 0}, []int{2, 1, 0, 2}, []int{1, 1, 2, 0})
	// Variables 0 and 3 are tried before variables 1 and 2, which would lead to 1 0 0 2.
	table = listed([]int{1, 0, 0, 2}, []int{1, 1, 1, 1}, []int{1, 1, 1, 2}, []int{2, 0, 0, 2}, []int{2, 0, 1, 2}, []int{2, 1, 0, 1})
	checkSearch(t, table, []int{1, 0, 0, 0}, []int{2, 0, 1, 2}, []int{1, 1, 1, 1})
}

func TestImprovementRejectsInvalidArguments(t *testing.T) {
	for n := 1; n <= 4; n++ {
		m := impl.Model{Domains: slices.Repeat([]int{63}, n)}
		zeros := make([]int, n)
		checkImprove(t, m, zeros, zeros, []int{0}, zeros)
		checkSearch(t, m, zeros, zeros, zeros)
		for _, free := range invalidVariableLists(n) {
			checkImprove(t, m, zeros, zeros, free, nil)
		}
		for _, x := range invalidAssignments(n) {
			checkImprove(t, m, zeros, x, nil, nil)
			checkImprove(t, m, zeros, x, []int{0}, nil)
			checkSearch(t, m, zeros, x, nil)
		}
		for _, obj := range append(invalidObjectives(n), nil) {
			checkImprove(t, m, obj, zeros, nil, nil)
			checkImprove(t, m, obj, zeros, []int{n - 1}, nil)
			checkSearch(t, m, obj, zeros, nil)
		}
	}
	for _, m := range invalidModels() {
		zeros := make([]int, len(m.Domains))
		checkImprove(t, m, zeros, zeros, nil, nil)
		checkImprove(t, m, []int{1}, []int{0}, []int{0}, nil)
		checkSearch(t, m, zeros, zeros, nil)
		checkSearch(t, m, nil, nil, nil)
	}
}

func TestImprovementNeedsASolution(t *testing.T) {
	s := newSource(95)
	checked := 0
	for range 500 {
		m := s.someModel()
		n := len(m.Domains)
		obj, x := s.objective(n), s.list(n, 0, 5)
		if inDomains(m, x) && len(brokenBy(m, x)) == 0 {
			continue
		}
		checked++
		checkImprove(t, m, obj, x, s.variables(n), nil)
		checkImprove(t, m, obj, x, s.Perm(n), nil)
		checkSearch(t, m, obj, x, nil)
	}
	if checked < 200 {
		t.Errorf("only %d assignments were tested", checked)
	}
	checkImprove(t, impl.Model{Domains: []int{3, 3}}, []int{1, 1}, []int{0, 2}, []int{1}, nil)
	checkSearch(t, impl.Model{Domains: []int{3, 3}}, []int{1, 1}, []int{0, 2}, nil)
	checkImprove(t, pairwise(4, 7), []int{1, 1, 1, 1}, []int{0, 1, 2, 0}, []int{3}, nil)
	checkSearch(t, pairwise(4, 7), []int{1, 1, 1, 1}, []int{0, 1, 2, 0}, nil)
}

// repairLists calls all functions of repair and local search that return lists.
func repairLists(m impl.Model, obj []int, x []int, variables []int) [][]int {
	repaired, _ := impl.Repair(m, x, variables)
	improved, _ := impl.Improve(m, obj, x, variables)
	same, _ := impl.Improve(m, obj, x, nil)
	searched, _ := impl.LocalSearch(m, obj, x)
	return lists(repaired, improved, same, searched)
}

func TestRepairAndLocalSearchLeaveTheirArgumentsAlone(t *testing.T) {
	s := newSource(96)
	for range 300 {
		m, list := s.solved()
		m = roomy(m)
		n := len(m.Domains)
		// All lists have spare memory, which must stay as it is, too.
		x := append(slices.Clone(list[s.IntN(len(list))]), 7, 8, 9)[:n]
		obj, variables := s.list(n+3, -9, 9)[:n], s.list(4, 0, n-1)[:s.between(0, 4)]
		memory := func() []int { return slices.Concat(x[:n+3], obj[:n+3], variables[:4]) }
		before, beforeLists := snapshot(m), memory()
		want := spoil(t, repairLists(m, obj, x, variables))
		impl.Distance(x, obj)
		if !sameModel(before, snapshot(m)) || !slices.Equal(memory(), beforeLists) {
			t.Fatal("an argument was changed, or shares memory with a result")
		}
		if !sameLists(repairLists(m, obj, x, variables), want) {
			t.Fatal("a result is kept from call to call")
		}
	}
}

package tests

import (
	"slices"
	"testing"

	"loop.example/constraintsolver/impl"
)

// valueAt is the value of an objective by its definition.
func valueAt(obj []int, x []int) int {
	sum := 0
	for i := range obj {
		sum += obj[i] * x[i]
	}
	return sum
}

// firstBest returns the first of the solutions with the smallest value, and how many have that value.
func firstBest(list [][]int, obj []int) ([]int, int) {
	var best []int
	ties := 0
	for _, x := range list {
		switch {
		case best == nil || valueAt(obj, x) < valueAt(obj, best):
			best, ties = x, 1
		case valueAt(obj, x) == valueAt(obj, best):
			ties++
		}
	}
	return best, ties
}

// lowest is LowerBound by its definition, on domains that are not empty: the smallest value over all their tuples.
func lowest(domains []int, obj []int) int {
	sum := 0
	for i, d := range domains {
		products := []int{}
		for _, v := range valuesOf(d) {
			products = append(products, obj[i]*v)
		}
		sum += slices.Min(products)
	}
	return sum
}

// dominates is the document's relation between two solutions.
func dominates(o1 []int, o2 []int, x []int, y []int) bool {
	a, b := valueAt(o1, y)-valueAt(o1, x), valueAt(o2, y)-valueAt(o2, x)
	return a >= 0 && b >= 0 && a+b > 0
}

// frontOf is ParetoFront by its definition, from all solutions in order.
func frontOf(list [][]int, o1 []int, o2 []int) [][]int {
	var front [][]int
	for i, x := range list {
		worse := slices.ContainsFunc(list, func(y []int) bool { return dominates(o1, o2, y, x) })
		later := slices.ContainsFunc(list[:i], func(y []int) bool {
			return valueAt(o1, y) == valueAt(o1, x) && valueAt(o2, y) == valueAt(o2, x)
		})
		if !worse && !later {
			front = append(front, x)
		}
	}
	return front
}

// objective returns an objective for n variables. Small coefficients lead to ties.
func (s source) objective(n int) []int {
	if s.IntN(2) == 0 {
		return s.list(n, -1, 1)
	}
	return s.list(n, -9, 9)
}

// invalidObjectives lists what is no objective for n variables.
func invalidObjectives(n int) [][]int {
	lists := [][]int{make([]int, n+1), make([]int, n-1), make([]int, 2*n), make([]int, 100)}
	for i := range n {
		for _, coefficient := range []int{10, -10, 11, 99, 1 << 32, -1 << 32, smallestInt, largestInt} {
			obj := make([]int, n)
			obj[i] = coefficient
			lists = append(lists, obj)
		}
	}
	return lists
}

// checkValue reports an objective value that is not the wanted one.
func checkValue(t *testing.T, obj []int, x []int, want int) {
	t.Helper()
	if got := impl.ObjectiveValue(obj, x); got != want {
		t.Errorf("ObjectiveValue(%v, %v) = %d, want %d", obj, x, got, want)
	}
}

// checkMinimize reports a model for which Minimize does not return the wanted solution, or one where there is none.
func checkMinimize(t *testing.T, m impl.Model, obj []int, want []int) {
	t.Helper()
	if x, ok := impl.Minimize(m, obj); !slices.Equal(x, want) || ok != (want != nil) {
		t.Errorf("Minimize(%+v, %v) = %v, %v, want %v", m, obj, x, ok, want)
	}
}

// checkBound reports a model for which LowerBound does not return what is wanted.
func checkBound(t *testing.T, m impl.Model, obj []int, want int, wantOK bool) {
	t.Helper()
	if got, ok := impl.LowerBound(m, obj); got != want || ok != wantOK {
		t.Errorf("LowerBound(%+v, %v) = %d, %v, want %d, %v", m, obj, got, ok, want, wantOK)
	}
}

// checkFront reports a model for which ParetoFront does not return the wanted solutions.
func checkFront(t *testing.T, m impl.Model, o1 []int, o2 []int, want ...[]int) {
	t.Helper()
	if got := impl.ParetoFront(m, o1, o2); !slices.EqualFunc(got, want, slices.Equal[[]int]) {
		t.Errorf("ParetoFront(%+v, %v, %v) = %v, want %v", m, o1, o2, got, want)
	}
}

// atLeast returns n variables with all values whose sum is at least the given one.
func atLeast(n int, sum int) impl.Model {
	c := impl.Constraint{Kind: impl.Linear, Bound: -sum}
	for i := range n {
		c.Vars, c.Args = append(c.Vars, i), append(c.Args, -1)
	}
	return impl.Model{Domains: slices.Repeat([]int{63}, n), Constraints: []impl.Constraint{c}}
}

func TestPromise20ObjectiveIsLinear(t *testing.T) {
	s := newSource(27)
	for range 2000 {
		n := s.between(1, 4)
		obj, x := s.list(n, -9, 9), s.list(n, 0, 5)
		value := impl.ObjectiveValue(obj, x)
		checkValue(t, obj, x, valueAt(obj, x))
		for i := range n {
			if x[i] < 5 {
				larger := slices.Clone(x)
				larger[i]++
				checkValue(t, obj, larger, value+obj[i])
			}
		}
	}
	checkValue(t, []int{9, 9, 9, 9}, []int{5, 5, 5, 5}, 180)
	checkValue(t, []int{-9, -9, -9, -9}, []int{5, 5, 5, 5}, -180)
	checkValue(t, []int{-9, 9, 3, 0}, []int{1, 0, 2, 5}, -3)
	checkValue(t, []int{7}, []int{0}, 0)
	checkValue(t, nil, nil, 0)
	checkValue(t, []int{}, []int{}, 0)
}

func TestPromise20InvalidArgumentsHaveTheValue0(t *testing.T) {
	for n := 1; n <= 4; n++ {
		fives := slices.Repeat([]int{5}, n)
		for _, obj := range invalidObjectives(n) {
			checkValue(t, obj, fives, 0)
		}
		nines := slices.Repeat([]int{9}, n)
		for _, length := range []int{0, n - 1, n + 1, 2 * n, 100} {
			checkValue(t, nines, slices.Repeat([]int{1}, length), 0)
			checkValue(t, slices.Repeat([]int{1}, length), fives, 0)
		}
		for i := range n {
			for _, v := range []int{-1, 6, 7, -5, 63, 1 << 32, smallestInt, largestInt} {
				x := slices.Clone(fives)
				x[i] = v
				checkValue(t, nines, x, 0)
			}
		}
	}
	for _, length := range []int{5, 6, 100} {
		checkValue(t, slices.Repeat([]int{1}, length), slices.Repeat([]int{1}, length), 0)
	}
}

func TestPromise21MinimizeReturnsAnOptimalSolution(t *testing.T) {
	s := newSource(28)
	seen := map[string]int{}
	for range 1500 {
		m := s.someModel()
		obj := s.objective(len(m.Domains))
		list := solutionsOf(m)
		want, ties := firstBest(list, obj)
		checkMinimize(t, m, obj, want)
		if want == nil {
			seen["none"]++
			continue
		}
		x, _ := impl.Minimize(m, obj)
		value := impl.ObjectiveValue(obj, x)
		for _, y := range list {
			if v := impl.ObjectiveValue(obj, y); v < value || v == value && slices.Compare(y, x) < 0 {
				t.Fatalf("Minimize(%+v, %v) = %v, but %v is better", m, obj, x, y)
			}
		}
		if bound, ok := impl.LowerBound(m, obj); !ok || bound > value {
			t.Fatalf("LowerBound(%+v, %v) = %d, %v, but %v has the value %d", m, obj, bound, ok, x, value)
		}
		if ties > 1 && !slices.Equal(x, list[0]) {
			seen["ties"]++
		}
		if slices.Min(obj) < 0 && slices.Max(obj) > 0 {
			seen["signs"]++
		}
	}
	if seen["none"] < 100 || seen["ties"] < 100 || seen["signs"] < 100 {
		t.Errorf("the models were not balanced: %v", seen)
	}
}

func TestMinimizeWithNegativeCoefficientsAndTies(t *testing.T) {
	free := impl.Model{Domains: []int{63, 63, 63, 63}}
	checkMinimize(t, free, []int{1, 1, 1, 1}, []int{0, 0, 0, 0})
	checkMinimize(t, free, []int{-1, -1, -1, -1}, []int{5, 5, 5, 5})
	checkMinimize(t, free, []int{-9, 9, -9, 9}, []int{5, 0, 5, 0})
	// A variable without influence gets its smallest value.
	checkMinimize(t, free, []int{0, -1, 0, 1}, []int{0, 5, 0, 0})
	checkMinimize(t, free, []int{0, 0, 0, 0}, []int{0, 0, 0, 0})
	checkMinimize(t, impl.Model{Domains: []int{42, 40}}, []int{0, 0}, []int{1, 3})
	checkMinimize(t, impl.Model{Domains: []int{42, 40}}, []int{-2, 1}, []int{5, 3})
	// All pairs with the sum 4 tie; the smallest one is neither the first solution nor the last.
	checkMinimize(t, atLeast(2, 4), []int{1, 1}, []int{0, 4})
	checkMinimize(t, atLeast(2, 4), []int{2, 2}, []int{0, 4})
	checkMinimize(t, atLeast(2, 7), []int{1, 1}, []int{2, 5})
	checkMinimize(t, atLeast(2, 7), []int{1, 2}, []int{5, 2})
	checkMinimize(t, atLeast(2, 7), []int{2, 1}, []int{2, 5})
	checkMinimize(t, pairwise(3, 7), []int{1, 1, 1}, []int{0, 1, 2})
	checkMinimize(t, pairwise(3, 7), []int{0, 1, -1}, []int{1, 0, 2})
	checkMinimize(t, pairwise(3, 15), []int{-1, 0, -1}, []int{2, 0, 3})
	// The bound of a node is better than any of its solutions.
	checkMinimize(t, pairwise(3, 7), []int{1, 2, 3}, []int{2, 1, 0})
	checkMinimize(t, impl.Model{Domains: []int{1, 0}}, []int{0, 0}, nil)
	checkMinimize(t, pairwise(4, 7), []int{1, 2, 3, 4}, nil)
}

func TestPromise22NothingIsBetterThanTheOptimum(t *testing.T) {
	s := newSource(29)
	checked := 0
	for range 1500 {
		m := s.someModel()
		obj := s.objective(len(m.Domains))
		x, ok := impl.Minimize(m, obj)
		if !ok {
			continue
		}
		as := func(bound int) impl.Constraint {
			c := impl.Constraint{Kind: impl.Linear, Args: obj, Bound: bound}
			for i := range obj {
				c.Vars = append(c.Vars, i)
			}
			return c
		}
		value := impl.ObjectiveValue(obj, x)
		better, ok := impl.WithConstraint(m, as(value-1))
		if !ok {
			continue
		}
		checked++
		if count := impl.CountSolutions(better); count != 0 || len(solutionsOf(better)) != 0 {
			t.Fatalf("Minimize(%+v, %v) = %v, but %d solutions are better", m, obj, x, count)
		}
		equal, _ := impl.WithConstraint(m, as(value))
		if first, _ := impl.Solve(equal); !slices.Equal(first, x) {
			t.Fatalf("Minimize(%+v, %v) = %v, but %v is as good", m, obj, x, first)
		}
	}
	if checked < 300 {
		t.Errorf("only %d models were tested", checked)
	}
}

func TestPromise23LowerBoundIsABoundOnAllSolutions(t *testing.T) {
	s := newSource(30)
	seen := map[string]int{}
	for range 1200 {
		m := s.someModel()
		obj := s.objective(len(m.Domains))
		domains := propagated(m)
		if domains[0] == 0 {
			checkBound(t, m, obj, 0, false)
			seen["failed"]++
			continue
		}
		checkBound(t, m, obj, lowest(domains, obj), true)
		bound, ok := impl.LowerBound(m, obj)
		if !ok || impl.Propagate(m)[0] == 0 {
			t.Fatalf("LowerBound(%+v, %v) = %d, %v, but propagation leaves %v", m, obj, bound, ok, impl.Propagate(m))
		}
		list := solutionsOf(m)
		for _, x := range list {
			if value := impl.ObjectiveValue(obj, x); value < bound {
				t.Fatalf("LowerBound(%+v, %v) = %d, but %v has the value %d", m, obj, bound, x, value)
			}
		}
		if len(list) == 0 {
			seen["no solution"]++
		}
		if bound != lowest(m.Domains, obj) {
			seen["propagated"]++
		}
		if best, _ := firstBest(list, obj); best != nil && valueAt(obj, best) > bound {
			seen["gap"]++
		}
	}
	for _, sort := range []string{"failed", "no solution", "propagated", "gap"} {
		if seen[sort] < 5 {
			t.Errorf("the models were not balanced: %v", seen)
		}
	}
}

func TestLowerBounds(t *testing.T) {
	free := impl.Model{Domains: []int{62, 31, 12, 1}}
	checkBound(t, free, []int{1, 1, 1, 1}, 1+0+2+0, true)
	checkBound(t, free, []int{-1, -1, -1, -1}, -5-4-3-0, true)
	checkBound(t, free, []int{-9, 9, 2, -2}, -45+0+4-0, true)
	checkBound(t, free, []int{0, 0, 0, 0}, 0, true)
	checkBound(t, impl.Model{Domains: []int{63, 63, 63, 63}}, []int{-9, -9, -9, -9}, -180, true)
	checkBound(t, impl.Model{Domains: []int{32, 32, 32, 32}}, []int{9, 9, 9, 9}, 180, true)
	// The domains are propagated first, but not searched: each variable can be 2, but not both of them.
	checkBound(t, atLeast(2, 7), []int{1, 1}, 4, true)
	checkBound(t, atLeast(2, 10), []int{1, 1}, 10, true)
	checkBound(t, atLeast(2, 11), []int{1, 1}, 0, false)
	checkBound(t, pairwise(3, 7), []int{1, 1, -1}, -2, true)
	// Propagation does not see that there is no solution.
	checkBound(t, pairwise(4, 7), []int{1, 1, 1, -1}, -2, true)
	checkBound(t, impl.Model{Domains: []int{63, 0}}, []int{1, 1}, 0, false)
	checkBound(t, impl.Model{Domains: []int{0}}, []int{0}, 0, false)
}

func TestPromise24ParetoFrontIsCompleteAndMinimal(t *testing.T) {
	s := newSource(31)
	sizes := map[int]int{}
	for range 1000 {
		m := s.someModel()
		o1, o2 := s.objective(len(m.Domains)), s.objective(len(m.Domains))
		list := solutionsOf(m)
		want := frontOf(list, o1, o2)
		sizes[min(len(want), 3)]++
		checkFront(t, m, o1, o2, want...)
		front := impl.ParetoFront(m, o1, o2)
		checkFrontCovers(t, list, front, o1, o2)
		for _, obj := range [][]int{o1, o2} {
			x, ok := impl.Minimize(m, obj)
			if ok && !slices.ContainsFunc(front, func(y []int) bool { return valueAt(obj, y) == valueAt(obj, x) }) {
				t.Fatalf("ParetoFront(%+v, %v, %v) = %v lacks the optimum of %v", m, o1, o2, front, obj)
			}
		}
	}
	if sizes[0] < 50 || sizes[1] < 50 || sizes[2] < 50 || sizes[3] < 50 {
		t.Errorf("the sizes of the fronts were not balanced: %v", sizes)
	}
}

// checkFrontCovers reports a solution that no entry dominates or equals, and an entry that dominates another one.
func checkFrontCovers(t *testing.T, list [][]int, front [][]int, o1 []int, o2 []int) {
	t.Helper()
	for _, x := range list {
		if !slices.ContainsFunc(front, func(y []int) bool {
			return impl.ObjectiveValue(o1, y) <= impl.ObjectiveValue(o1, x) && impl.ObjectiveValue(o2, y) <= impl.ObjectiveValue(o2, x)
		}) {
			t.Errorf("no entry of %v is as good as %v for %v and %v", front, x, o1, o2)
		}
	}
	for i, x := range front {
		for j, y := range front {
			if i != j && impl.ObjectiveValue(o1, x) <= impl.ObjectiveValue(o1, y) && impl.ObjectiveValue(o2, x) <= impl.ObjectiveValue(o2, y) {
				t.Errorf("the entry %v of %v is as good as %v for %v and %v", x, front, y, o1, o2)
			}
		}
	}
}

func TestParetoFronts(t *testing.T) {
	free := impl.Model{Domains: []int{7, 7}}
	checkFront(t, free, []int{1, 0}, []int{0, 1}, []int{0, 0})
	checkFront(t, free, []int{-1, 0}, []int{0, 1}, []int{2, 0})
	// Opposite objectives exclude nothing, except further solutions with the same values.
	checkFront(t, free, []int{1, 0}, []int{-1, 0}, []int{0, 0}, []int{1, 0}, []int{2, 0})
	checkFront(t, free, []int{0, 3}, []int{0, -3}, []int{0, 0}, []int{0, 1}, []int{0, 2})
	checkFront(t, free, []int{1, 1}, []int{-1, -1}, []int{0, 0}, []int{0, 1}, []int{0, 2}, []int{1, 2}, []int{2, 2})
	// One objective twice is Minimize, and no objective leaves the first solution.
	checkFront(t, atLeast(2, 7), []int{1, 1}, []int{1, 1}, []int{2, 5})
	checkFront(t, atLeast(2, 7), []int{0, 0}, []int{0, 0}, []int{2, 5})
	checkFront(t, atLeast(2, 7), []int{1, 0}, []int{0, 1}, []int{2, 5}, []int{3, 4}, []int{4, 3}, []int{5, 2})
	// A solution that is equal in one objective and smaller in the other one dominates, whether it comes first or last.
	checkFront(t, free, []int{1, 0}, []int{0, 0}, []int{0, 0})
	checkFront(t, free, []int{-1, 0}, []int{0, 0}, []int{2, 0})
	checkFront(t, free, []int{0, 0}, []int{-1, 0}, []int{2, 0})
	checkFront(t, free, []int{0, 0}, []int{-1, -1}, []int{2, 2})
	// A late solution can drive out several early ones.
	rows := [][]int{{0, 3, 4}, {1, 4, 3}, {2, 5, 2}, {3, 3, 2}, {4, 3, 2}, {5, 2, 5}}
	table := impl.Model{Domains: []int{63, 63, 63}, Constraints: []impl.Constraint{{Kind: impl.Table, Vars: []int{0, 1, 2}, Rows: rows}}}
	checkFront(t, table, []int{0, 1, 0}, []int{0, 0, 1}, rows[3], rows[5])
	checkFront(t, table, []int{0, 0, 1}, []int{0, 1, 0}, rows[3], rows[5])
	checkFront(t, table, []int{0, -1, 0}, []int{0, 0, -1}, rows[0], rows[1], rows[2], rows[5])
	checkFront(t, pairwise(4, 7), []int{1, 1, 1, 1}, []int{0, 0, 0, 0})
	checkFront(t, impl.Model{Domains: []int{63, 0}}, []int{1, 1}, []int{0, 0})
}

func TestOptimizationRejectsInvalidObjectives(t *testing.T) {
	for n := 1; n <= 4; n++ {
		m := impl.Model{Domains: slices.Repeat([]int{63}, n)}
		valid := make([]int, n)
		for _, limit := range []int{-9, 9} {
			obj := slices.Repeat([]int{limit}, n)
			if _, ok := impl.Minimize(m, obj); !ok {
				t.Errorf("Minimize rejects %v", obj)
			}
			if _, ok := impl.LowerBound(m, obj); !ok {
				t.Errorf("LowerBound rejects %v", obj)
			}
			if len(impl.ParetoFront(m, obj, obj)) != 1 {
				t.Errorf("ParetoFront rejects %v", obj)
			}
		}
		for _, obj := range append(invalidObjectives(n), nil) {
			checkMinimize(t, m, obj, nil)
			checkBound(t, m, obj, 0, false)
			checkFront(t, m, obj, valid)
			checkFront(t, m, valid, obj)
			checkFront(t, m, obj, obj)
		}
	}
}

func TestOptimizationRejectsInvalidModels(t *testing.T) {
	for _, m := range invalidModels() {
		for _, obj := range [][]int{make([]int, len(m.Domains)), slices.Repeat([]int{1}, len(m.Domains)), {1}, nil} {
			checkMinimize(t, m, obj, nil)
			checkBound(t, m, obj, 0, false)
			checkFront(t, m, obj, obj)
		}
	}
}

// optimized calls all functions of the optimization that return lists.
func optimized(m impl.Model, o1 []int, o2 []int) [][]int {
	x, _ := impl.Minimize(m, o1)
	return append([][]int{x}, impl.ParetoFront(m, o1, o2)...)
}

func TestOptimizationLeavesItsArgumentsAlone(t *testing.T) {
	s := newSource(32)
	for range 300 {
		m := roomy(s.someModel())
		n := len(m.Domains)
		// Both objectives have spare memory, which must stay as it is, too.
		o1, o2 := s.list(n+3, -9, 9)[:n], s.list(n+3, -9, 9)[:n]
		before, before1, before2 := snapshot(m), slices.Clone(o1[:n+3]), slices.Clone(o2[:n+3])
		first := optimized(m, o1, o2)
		want := spoil(t, first)
		impl.LowerBound(m, o1)
		impl.ObjectiveValue(o1, o2)
		if !sameModel(before, snapshot(m)) || !slices.Equal(before1, o1[:n+3]) || !slices.Equal(before2, o2[:n+3]) {
			t.Fatal("an argument was changed, or shares memory with a result")
		}
		if !slices.EqualFunc(optimized(m, o1, o2), want, slices.Equal[[]int]) {
			t.Fatal("a result is kept from call to call")
		}
	}
}

package tests

import (
	"slices"
	"testing"

	"loop.example/constraintsolver/impl"
)

// filtered is Filter by its definition: it tries all assignments, whose values outside c do not matter.
func filtered(c impl.Constraint, domains []int) []int {
	kept := slices.Clone(domains)
	for _, v := range c.Vars {
		kept[v] = 0
	}
	for _, x := range allAssignments(len(domains)) {
		inside := !slices.ContainsFunc(c.Vars, func(v int) bool { return !slices.Contains(valuesOf(domains[v]), x[v]) })
		if !inside || !holds(c, x) {
			continue
		}
		for _, v := range c.Vars {
			kept[v] |= 1 << x[v]
		}
	}
	return kept
}

// propagated is Propagate by its definition: it filters with all constraints in turn until a whole round changes nothing.
func propagated(m impl.Model) []int {
	domains := slices.Clone(m.Domains)
	for {
		before := slices.Clone(domains)
		for _, c := range m.Constraints {
			domains = filtered(c, domains)
		}
		if slices.Contains(domains, 0) {
			return make([]int, len(domains))
		}
		if slices.Equal(before, domains) {
			return domains
		}
	}
}

// solutionsOf lists the solutions of m in lexicographic order, by trying all assignments.
func solutionsOf(m impl.Model) [][]int {
	var list [][]int
	for _, x := range allAssignments(len(m.Domains)) {
		if inDomains(m, x) && len(brokenBy(m, x)) == 0 {
			list = append(list, x)
		}
	}
	return list
}

// contains reports whether every domain of small is contained in that of large.
func contains(large []int, small []int) bool {
	for i := range small {
		if small[i]&^large[i] != 0 {
			return false
		}
	}
	return len(large) == len(small)
}

// someDomains returns domains of n variables. Every second list has no empty one, as most tests are dull with one.
func (s source) someDomains(n int) []int {
	return s.list(n, s.IntN(2), 63)
}

// chainModel returns models in which a removal by one constraint often leads to the next one by another.
func (s source) chainModel() impl.Model {
	m := impl.Model{Domains: s.list(4, 1, 63)}
	for range s.between(3, 6) {
		c := impl.Constraint{Kind: impl.Linear, Vars: s.Perm(4)[:2], Args: []int{1, -1}, Bound: s.between(-2, 2)}
		switch s.IntN(3) {
		case 0:
			c.Args, c.Bound = []int{2, -1}, s.between(0, 3)
		case 1:
			c.Kind, c.Args, c.Bound = impl.Element, s.Perm(6), 0
		}
		m.Constraints = append(m.Constraints, c)
	}
	return m
}

// checkFilter reports domains that Filter does not leave as wanted.
func checkFilter(t *testing.T, c impl.Constraint, domains []int, want ...int) {
	t.Helper()
	if got := impl.Filter(c, domains); !slices.Equal(got, want) {
		t.Errorf("Filter(%+v, %v) = %v, want %v", c, domains, got, want)
	}
}

func TestPromise8FilterRemovesExactlyTheValuesWithoutSupport(t *testing.T) {
	s := newSource(10)
	kept, removed := map[int]int{}, map[int]int{}
	for range 6000 {
		n := s.between(1, 4)
		c, domains := s.constraint(n), s.someDomains(n)
		want := filtered(c, domains)
		checkFilter(t, c, domains, want...)
		if slices.Equal(want, domains) {
			kept[c.Kind]++
		} else {
			removed[c.Kind]++
		}
	}
	for kind := 1; kind <= 9; kind++ {
		if kept[kind] == 0 || removed[kind] < 20 {
			t.Errorf("kind %d removed nothing %d times, and something %d times", kind, kept[kind], removed[kind])
		}
	}
}

func TestPromise8RemainingValuesArePartOfASolution(t *testing.T) {
	s := newSource(11)
	for range 400 {
		n := s.between(1, 4)
		c, domains := s.constraint(n), s.list(n, 1, 63)
		alone := impl.Model{Domains: domains, Constraints: []impl.Constraint{c}}
		used := make([]int, n)
		for _, x := range allAssignments(n) {
			if impl.IsSolution(alone, x) {
				for i, v := range x {
					used[i] |= 1 << v
				}
			}
		}
		for v, d := range impl.Filter(c, domains) {
			want := domains[v]
			if slices.Contains(c.Vars, v) {
				want = used[v]
			}
			if d != want {
				t.Fatalf("Filter(%+v, %v) leaves %d for variable %d, want %d", c, domains, d, v, want)
			}
		}
	}
}

func TestFilterWithEveryKind(t *testing.T) {
	checkFilter(t, impl.Constraint{Kind: impl.Linear, Vars: []int{1, 0}, Args: []int{-1, 2}, Bound: -3}, []int{63, 63}, 2|1, 8|16|32)
	checkFilter(t, impl.Constraint{Kind: impl.NotEqual, Vars: []int{0, 1}, Args: []int{2}}, []int{63, 2}, 63&^8, 2)
	checkFilter(t, impl.Constraint{Kind: impl.NotEqual, Vars: []int{0, 1}, Args: []int{2}}, []int{63, 3}, 63, 3)
	checkFilter(t, impl.Constraint{Kind: impl.AllDifferent, Vars: []int{0, 1, 2, 3}}, []int{6, 6, 15, 14}, 6, 6, 1, 8)
	checkFilter(t, impl.Constraint{Kind: impl.Element, Vars: []int{0, 1}, Args: []int{4, 4, 0}}, []int{63, 63}, 7, 17)
	checkFilter(t, impl.Constraint{Kind: impl.Table, Vars: []int{1, 0}, Rows: [][]int{{0, 1}, {5, 2}, {3, 3}}}, []int{6, 63}, 6, 33)
	checkFilter(t, impl.Constraint{Kind: impl.Count, Vars: []int{0, 1, 2}, Args: []int{2}, Bound: 2}, []int{4, 63, 3}, 4, 4, 3)
	checkFilter(t, impl.Constraint{Kind: impl.Cumulative, Vars: []int{0, 1}, Args: []int{3, 2, 1, 1}, Bound: 1}, []int{4, 63}, 4, 33)
	checkFilter(t, impl.Constraint{Kind: impl.Regular, Vars: []int{0, 1}, Args: []int{0}, Rows: [][]int{{1, -1, -1, -1, -1, -1}, {-1, -1, 0, 0, 1, -1}}},
		[]int{63, 63}, 1, 12)
	checkFilter(t, impl.Constraint{Kind: impl.Circuit, Vars: []int{0, 1, 2}}, []int{2, 63, 63}, 2, 4, 1)
}

func TestFilterLeavesVariablesOutsideTheConstraint(t *testing.T) {
	different := impl.Constraint{Kind: impl.AllDifferent, Vars: []int{3, 1}}
	checkFilter(t, different, []int{63, 1, 0, 3}, 63, 1, 0, 2)
	checkFilter(t, different, []int{0, 3, 1, 1}, 0, 2, 1, 1)
	// Without a satisfying tuple only the variables of the constraint lose their values.
	checkFilter(t, different, []int{63, 1, 7, 1}, 63, 0, 7, 0)
	checkFilter(t, different, []int{63, 0, 7, 5}, 63, 0, 7, 0)
	checkFilter(t, different, []int{63, 5, 7, 0}, 63, 0, 7, 0)
	checkFilter(t, different, []int{0, 0, 0, 0}, 0, 0, 0, 0)
	for _, c := range bases() {
		if got := impl.Filter(c, []int{63, 0, 42, 0}); !slices.Equal(got, []int{0, 0, 42, 0}) {
			t.Errorf("Filter(%+v) with an empty domain = %v", c, got)
		}
	}
}

func TestFilterOfTheLargestDomains(t *testing.T) {
	all := []int{0, 1, 2, 3}
	checkFilter(t, impl.Constraint{Kind: impl.Linear, Vars: all, Args: []int{9, 9, 9, 9}, Bound: 180}, []int{63, 63, 63, 63}, 63, 63, 63, 63)
	checkFilter(t, impl.Constraint{Kind: impl.Linear, Vars: all, Args: []int{-9, -9, -9, -9}, Bound: -180}, []int{63, 63, 63, 63}, 32, 32, 32, 32)
	checkFilter(t, impl.Constraint{Kind: impl.Linear, Vars: all, Args: []int{-9, -9, -9, -9}, Bound: -181}, []int{63, 63, 63, 63}, 0, 0, 0, 0)
	checkFilter(t, impl.Constraint{Kind: impl.Linear, Vars: []int{0}, Args: []int{0}, Bound: -999}, []int{63}, 0)
	checkFilter(t, impl.Constraint{Kind: impl.Circuit, Vars: all}, []int{63, 63, 63, 63}, 14, 13, 11, 7)
	checkFilter(t, impl.Constraint{Kind: impl.Circuit, Vars: []int{0}}, []int{63}, 1)
}

func TestPromise9FilteringTwiceIsFilteringOnce(t *testing.T) {
	s := newSource(12)
	for range 4000 {
		n := s.between(1, 4)
		c, domains := s.constraint(n), s.someDomains(n)
		once := impl.Filter(c, domains)
		if twice := impl.Filter(c, once); len(once) != n || !slices.Equal(once, twice) {
			t.Fatalf("Filter(%+v, %v) = %v, filtered again %v", c, domains, once, twice)
		}
	}
}

func TestPromise10FilteringSmallerDomainsLeavesSmallerDomains(t *testing.T) {
	s := newSource(13)
	for range 4000 {
		n := s.between(1, 4)
		c, large := s.constraint(n), s.someDomains(n)
		small := slices.Clone(large)
		for i := range small {
			small[i] &= s.between(0, 63) | s.between(0, 63)
		}
		a, b := impl.Filter(c, small), impl.Filter(c, large)
		if len(a) != n || !contains(b, a) || !contains(small, a) {
			t.Fatalf("Filter(%+v) leaves %v of %v, but %v of %v", c, a, small, b, large)
		}
	}
}

// invalidDomainLists lists what is no list of domains.
func invalidDomainLists() [][]int {
	lists := [][]int{nil, {}, {1, 1, 1, 1, 1}, {0, 0, 0, 0, 0}, make([]int, 1000)}
	for _, d := range invalidDomains() {
		lists = append(lists, []int{d}, []int{63, d}, []int{d, 0}, []int{1, 2, 4, d})
	}
	return lists
}

func TestFilterAndIsEntailedRejectInvalidArguments(t *testing.T) {
	for _, domains := range invalidDomainLists() {
		for _, c := range append(bases(), impl.Constraint{Kind: impl.AllDifferent, Vars: []int{0}}) {
			if got := impl.Filter(c, domains); len(got) != 0 || impl.IsEntailed(c, domains) {
				t.Errorf("Filter(%+v, %v) = %v, IsEntailed = %v", c, domains, got, impl.IsEntailed(c, domains))
			}
		}
	}
	for _, c := range invalidConstraints() {
		for _, domains := range [][]int{{1, 2}, {63, 63}, {0, 0}, {0, 63}} {
			if got := impl.Filter(c, domains); len(got) != 0 || impl.IsEntailed(c, domains) {
				t.Errorf("Filter(%+v, %v) = %v, IsEntailed = %v", c, domains, got, impl.IsEntailed(c, domains))
			}
		}
	}
}

func TestPromise11PropagationReachesAFixpoint(t *testing.T) {
	s := newSource(14)
	failed, changed := 0, 0
	for i := range 1500 {
		m := s.easyModel()
		switch i % 3 {
		case 0:
			m = s.chainModel()
		case 1:
			m = s.model()
		}
		got := impl.Propagate(m)
		if want := propagated(m); !slices.Equal(got, want) {
			t.Fatalf("Propagate(%+v) = %v, want %v", m, got, want)
		}
		if !contains(m.Domains, got) {
			t.Fatalf("Propagate(%+v) = %v has additional values", m, got)
		}
		for _, c := range m.Constraints {
			if further := impl.Filter(c, got); !slices.Equal(further, got) {
				t.Fatalf("Propagate(%+v) = %v is filtered further by %+v to %v", m, got, c, further)
			}
		}
		if again := impl.Propagate(impl.Model{Domains: got, Constraints: m.Constraints}); !slices.Equal(again, got) {
			t.Fatalf("Propagate(%+v) = %v, and then %v", m, got, again)
		}
		if got[0] == 0 {
			failed++
		} else if !slices.Equal(got, m.Domains) {
			changed++
		}
	}
	if failed < 200 || changed < 200 {
		t.Errorf("only %d models failed and %d changed", failed, changed)
	}
}

func TestPropagationGoesBackAndForth(t *testing.T) {
	// x0 < x1 < x2 < x3, with the constraints in the worst order for either direction.
	less := func(i int, j int) impl.Constraint {
		return impl.Constraint{Kind: impl.Linear, Vars: []int{i, j}, Args: []int{1, -1}, Bound: -1}
	}
	m := impl.Model{Domains: []int{63, 63, 63, 63}, Constraints: []impl.Constraint{less(2, 3), less(1, 2), less(0, 1)}}
	if got := impl.Propagate(m); !slices.Equal(got, []int{7, 14, 28, 56}) {
		t.Errorf("Propagate of a chain = %v", got)
	}
	m.Domains[3] = 15
	if got := impl.Propagate(m); !slices.Equal(got, []int{1, 2, 4, 8}) {
		t.Errorf("Propagate of a tight chain = %v", got)
	}
	m.Domains[3] = 7
	if got := impl.Propagate(m); !slices.Equal(got, []int{0, 0, 0, 0}) {
		t.Errorf("Propagate of a chain that is too tight = %v", got)
	}
}

func TestPropagationOfFailedDomains(t *testing.T) {
	different := impl.Constraint{Kind: impl.AllDifferent, Vars: []int{0, 1}}
	for _, c := range []struct {
		m    impl.Model
		want []int
	}{
		// An empty domain empties all others, whether or not a constraint connects them.
		{impl.Model{Domains: []int{0}}, []int{0}},
		{impl.Model{Domains: []int{63, 0, 5}}, []int{0, 0, 0}},
		{impl.Model{Domains: []int{63, 5, 1, 0}, Constraints: []impl.Constraint{different}}, []int{0, 0, 0, 0}},
		{impl.Model{Domains: []int{63, 0, 1}, Constraints: []impl.Constraint{different}}, []int{0, 0, 0}},
		{impl.Model{Domains: []int{4, 4, 63, 63}, Constraints: []impl.Constraint{different}}, []int{0, 0, 0, 0}},
		// Without constraints nothing is removed.
		{impl.Model{Domains: []int{63, 5, 1, 32}}, []int{63, 5, 1, 32}},
		{impl.Model{Domains: []int{4, 6, 63}, Constraints: []impl.Constraint{different}}, []int{4, 2, 63}},
	} {
		if got := impl.Propagate(c.m); !slices.Equal(got, c.want) {
			t.Errorf("Propagate(%+v) = %v, want %v", c.m, got, c.want)
		}
	}
}

func TestPromise12PropagationDoesNotDependOnTheOrder(t *testing.T) {
	s := newSource(15)
	for range 1500 {
		m := s.chainModel()
		if s.IntN(2) == 0 {
			m = s.easyModel()
			m.Constraints = append(m.Constraints, s.constraint(len(m.Domains)))
		}
		want := impl.Propagate(m)
		if len(want) != len(m.Domains) {
			t.Fatalf("Propagate(%+v) = %v", m, want)
		}
		slices.Reverse(m.Constraints)
		if got := impl.Propagate(m); !slices.Equal(got, want) {
			t.Fatalf("Propagate(%+v) = %v, reversed %v", m, got, want)
		}
		s.Shuffle(len(m.Constraints), func(i int, j int) {
			m.Constraints[i], m.Constraints[j] = m.Constraints[j], m.Constraints[i]
		})
		if got := impl.Propagate(m); !slices.Equal(got, want) {
			t.Fatalf("Propagate(%+v) = %v, in another order %v", m, got, want)
		}
	}
}

func TestPromise13PropagationLosesNoSolution(t *testing.T) {
	s := newSource(16)
	total := 0
	for range 800 {
		m := s.easyModel()
		smaller := impl.Model{Domains: impl.Propagate(m), Constraints: m.Constraints}
		list := solutionsOf(m)
		total += len(list)
		for _, x := range list {
			if !impl.IsSolution(smaller, x) {
				t.Fatalf("Propagate(%+v) = %v loses %v", m, smaller.Domains, x)
			}
		}
		if a, b := impl.CountSolutions(m), impl.CountSolutions(smaller); a != len(list) || b != len(list) {
			t.Fatalf("%+v has %d solutions, CountSolutions = %d, and %d after propagation", m, len(list), a, b)
		}
	}
	if total < 10000 {
		t.Errorf("only %d solutions were tested", total)
	}
}

func TestPromise14ModelIsConsistentIfPropagationChangesNothing(t *testing.T) {
	s := newSource(17)
	seen := map[bool]int{}
	check := func(m impl.Model) {
		want := !slices.Contains(m.Domains, 0) && slices.Equal(propagated(m), m.Domains)
		seen[want]++
		if got := impl.IsConsistent(m); got != want || want != (impl.Propagate(m)[0] != 0 && slices.Equal(impl.Propagate(m), m.Domains)) {
			t.Fatalf("IsConsistent(%+v) = %v, want %v, Propagate = %v", m, got, want, impl.Propagate(m))
		}
	}
	for range 600 {
		m := s.easyModel()
		check(m)
		check(impl.Model{Domains: impl.Propagate(m), Constraints: m.Constraints})
		check(s.model())
	}
	if seen[true] < 200 || seen[false] < 200 {
		t.Errorf("the models were not balanced: %v", seen)
	}
}

func TestConsistencyOfFailedDomains(t *testing.T) {
	different := impl.Constraint{Kind: impl.AllDifferent, Vars: []int{0, 1}}
	for _, c := range []struct {
		domains []int
		want    bool
	}{
		{[]int{63, 63, 63}, true}, {[]int{1, 2, 1}, true}, {[]int{1, 3, 1}, false}, {[]int{3, 1, 63}, false},
		{[]int{1, 1, 1}, false}, {[]int{0, 0, 0}, false}, {[]int{1, 2, 0}, false}, {[]int{0, 2, 1}, false},
	} {
		if got := impl.IsConsistent(impl.Model{Domains: c.domains, Constraints: []impl.Constraint{different}}); got != c.want {
			t.Errorf("IsConsistent with %v = %v", c.domains, got)
		}
		if got := impl.IsConsistent(impl.Model{Domains: c.domains}); got != !slices.Contains(c.domains, 0) {
			t.Errorf("IsConsistent with %v and no constraint = %v", c.domains, got)
		}
	}
	// The last constraint counts like the first.
	late := impl.Model{Domains: []int{1, 2, 2}, Constraints: []impl.Constraint{different, {Kind: impl.AllDifferent, Vars: []int{1, 2}}}}
	if impl.IsConsistent(late) {
		t.Error("IsConsistent does not look at the last constraint")
	}
}

func TestPropagationRejectsInvalidModels(t *testing.T) {
	for _, m := range invalidModels() {
		if got := impl.Propagate(m); len(got) != 0 {
			t.Errorf("Propagate(%+v) = %v", m, got)
		}
		if impl.IsConsistent(m) {
			t.Errorf("IsConsistent(%+v) = true", m)
		}
	}
}

func TestPromise15EntailedConstraintCanBeDropped(t *testing.T) {
	s := newSource(18)
	seen := map[[2]bool]int{}
	for range 3000 {
		n := s.between(1, 4)
		c, domains := s.constraint(n), s.someDomains(n)
		if s.IntN(2) == 0 {
			domains = impl.Filter(c, domains)
		}
		if s.IntN(8) == 0 {
			domains[s.IntN(n)] = 0
		}
		free := impl.Model{Domains: domains}
		bound := impl.Model{Domains: domains, Constraints: []impl.Constraint{c}}
		a, b := len(solutionsOf(free)), len(solutionsOf(bound))
		seen[[2]bool{a == b, a == 0}]++
		if got := impl.IsEntailed(c, domains); got != (a == b) {
			t.Fatalf("IsEntailed(%+v, %v) = %v, but %d of %d tuples satisfy it", c, domains, got, b, a)
		}
		if impl.CountSolutions(free) != a || impl.CountSolutions(bound) != b {
			t.Fatalf("CountSolutions with and without %+v on %v is not %d and %d", c, domains, b, a)
		}
	}
	if seen[[2]bool{true, false}] < 200 || seen[[2]bool{false, false}] < 200 || seen[[2]bool{true, true}] < 200 {
		t.Errorf("the constraints were not balanced: %v", seen)
	}
}

func TestEntailmentOfFailedDomains(t *testing.T) {
	different := impl.Constraint{Kind: impl.AllDifferent, Vars: []int{0, 1}}
	for _, c := range []struct {
		domains []int
		want    bool
	}{
		{[]int{3, 12, 63}, true}, {[]int{3, 6, 1}, false}, {[]int{1, 1, 1}, false}, {[]int{1, 2}, true},
		// There is no tuple if a domain is empty, also that of a variable outside the constraint.
		{[]int{0, 1, 1}, true}, {[]int{1, 0, 1}, true}, {[]int{1, 1, 0}, true}, {[]int{0, 0}, true},
	} {
		if got := impl.IsEntailed(different, c.domains); got != c.want {
			t.Errorf("IsEntailed with %v = %v", c.domains, got)
		}
	}
}

func TestPropagationLeavesItsArgumentsAlone(t *testing.T) {
	s := newSource(19)
	for range 500 {
		m := roomy(s.model())
		c := roomy(impl.Model{Constraints: []impl.Constraint{s.constraint(len(m.Domains))}}).Constraints[0]
		before, beforeC := snapshot(m), snapshot(impl.Model{Constraints: []impl.Constraint{c}})
		for _, call := range []func() []int{
			func() []int { return impl.Filter(c, m.Domains) },
			func() []int { return impl.Propagate(m) },
		} {
			first := call()
			want := slices.Clone(first)
			for i := range first[:cap(first)] {
				first[:cap(first)][i] = 99
			}
			if !slices.Equal(call(), want) {
				t.Fatal("a result is kept, or shares memory with an argument")
			}
		}
		impl.IsConsistent(m)
		impl.IsEntailed(c, m.Domains)
		if !sameModel(before, snapshot(m)) || !sameModel(beforeC, snapshot(impl.Model{Constraints: []impl.Constraint{c}})) {
			t.Fatal("an argument was changed, or shares memory with a result")
		}
	}
}

package tests

import (
	"slices"
	"testing"

	"loop.example/constraintsolver/impl"
)

// searched is Solve by its definition, by recursion.
func searched(m impl.Model) ([]int, int) {
	domains := propagated(m)
	if domains[0] == 0 {
		return nil, 1
	}
	var x []int
	for v, d := range domains {
		if values := valuesOf(d); len(values) > 1 {
			return searchedBelow(impl.Model{Domains: domains, Constraints: m.Constraints}, v)
		}
		x = append(x, valuesOf(d)[0])
	}
	return x, 1
}

// searchedBelow visits the children of a node with propagated domains that branches on v; it counts the node, too.
func searchedBelow(m impl.Model, v int) ([]int, int) {
	nodes := 1
	for _, a := range valuesOf(m.Domains[v]) {
		x, below := searched(fixed(m, v, a))
		nodes += below
		if x != nil {
			return x, nodes
		}
	}
	return nil, nodes
}

// fixed returns m with the domain of variable v restricted to a value of it.
func fixed(m impl.Model, v int, a int) impl.Model {
	domains := slices.Clone(m.Domains)
	domains[v] = 1 << a
	return impl.Model{Domains: domains, Constraints: m.Constraints}
}

// pairwise returns n variables with one domain, every two of which are different by a constraint of their own.
func pairwise(n int, domain int) impl.Model {
	m := impl.Model{Domains: slices.Repeat([]int{domain}, n)}
	for i := range n {
		for j := range i {
			m.Constraints = append(m.Constraints, impl.Constraint{Kind: impl.NotEqual, Vars: []int{j, i}, Args: []int{0}})
		}
	}
	return m
}

// checkSolve reports a model for which Solve does not return what is wanted.
func checkSolve(t *testing.T, m impl.Model, want []int, wantNodes int) {
	t.Helper()
	if x, nodes := impl.Solve(m); !slices.Equal(x, want) || nodes != wantNodes {
		t.Errorf("Solve(%+v) = %v, %d, want %v, %d", m, x, nodes, want, wantNodes)
	}
}

// someModel returns models of all sorts, many with solutions and many without.
func (s source) someModel() impl.Model {
	if s.IntN(4) == 0 {
		return s.hardModel()
	}
	m := s.easyModel()
	if s.IntN(3) == 0 {
		m.Constraints = append(m.Constraints, s.constraint(len(m.Domains)))
	}
	if s.IntN(16) == 0 {
		m.Domains[s.IntN(len(m.Domains))] = 0
	}
	return m
}

// parity returns a constraint that fixes the parity of how many of the variables have one of some values. As long as two
// of them are free to have such a value or not, filtering removes nothing.
func (s source) parity(vars []int) impl.Constraint {
	flips := s.list(6, 0, 1)
	stays := make([]int, 6)
	for v, flip := range flips {
		stays[v] = 1 - flip
	}
	return impl.Constraint{Kind: impl.Regular, Vars: vars, Args: s.list(1, 0, 1), Rows: [][]int{flips, stays}}
}

// hardModel returns models in which propagation often sees nothing wrong although there are few solutions or none.
func (s source) hardModel() impl.Model {
	n := s.between(3, 4)
	m := impl.Model{Domains: s.list(n, 7, 63)}
	for range s.between(3, 5) {
		m.Constraints = append(m.Constraints, s.parity(s.Perm(n)[:3]))
	}
	m.Constraints = append(m.Constraints, impl.Constraint{Kind: impl.NotEqual, Vars: s.Perm(n)[:2], Args: s.list(1, -1, 1)})
	return m
}

func TestPromise16SolveReturnsTheSmallestSolution(t *testing.T) {
	s := newSource(20)
	seen := map[bool]int{}
	for range 1500 {
		m := s.someModel()
		list := solutionsOf(m)
		seen[len(list) > 0]++
		x, nodes := impl.Solve(m)
		if len(list) == 0 {
			if len(x) != 0 || nodes < 1 {
				t.Fatalf("Solve(%+v) = %v, %d, but there is no solution", m, x, nodes)
			}
			continue
		}
		if !slices.Equal(x, list[0]) || !impl.IsSolution(m, x) {
			t.Fatalf("Solve(%+v) = %v, want %v", m, x, list[0])
		}
	}
	if seen[true] < 300 || seen[false] < 300 {
		t.Errorf("the models were not balanced: %v", seen)
	}
}

func TestSolveCountsTheVisitedNodes(t *testing.T) {
	s := newSource(21)
	hard := map[bool]int{}
	for i := range 300 {
		m := s.hardModel()
		if i%3 == 0 {
			m = s.someModel()
		}
		x, nodes := impl.Solve(m)
		want, wantNodes := searched(m)
		if !slices.Equal(x, want) || nodes != wantNodes {
			t.Fatalf("Solve(%+v) = %v, %d, want %v, %d", m, x, nodes, want, wantNodes)
		}
		if nodes > 5 {
			hard[len(x) > 0]++
		}
	}
	if hard[true] < 10 || hard[false] < 10 {
		t.Errorf("the models were too easy: more than 5 nodes only %v times", hard)
	}
}

func TestNumberOfNodes(t *testing.T) {
	// The root is a node, also if nothing is left to decide.
	checkSolve(t, impl.Model{Domains: []int{4}}, []int{2}, 1)
	checkSolve(t, impl.Model{Domains: []int{4, 1, 32, 2}}, []int{2, 0, 5, 1}, 1)
	checkSolve(t, impl.Model{Domains: []int{0}}, nil, 1)
	checkSolve(t, impl.Model{Domains: []int{63, 63, 0}}, nil, 1)
	// Without constraints there is one more node per variable with several values.
	checkSolve(t, impl.Model{Domains: []int{63, 63, 63, 63}}, []int{0, 0, 0, 0}, 5)
	checkSolve(t, impl.Model{Domains: []int{6, 8, 48, 1}}, []int{1, 3, 4, 0}, 3)
	// Propagation decides the rest.
	checkSolve(t, pairwise(2, 3), []int{0, 1}, 2)
	checkSolve(t, pairwise(3, 7), []int{0, 1, 2}, 3)
	checkSolve(t, pairwise(4, 60), []int{2, 3, 4, 5}, 4)
	// It cannot see that two values are too few for three variables, nor three for four: every node fails.
	checkSolve(t, pairwise(3, 3), nil, 3)
	checkSolve(t, pairwise(4, 7), nil, 10)
	checkSolve(t, pairwise(4, 3), nil, 3)
	// One constraint for all variables shows it at the root.
	checkSolve(t, impl.Model{Domains: []int{3, 3, 3}, Constraints: []impl.Constraint{{Kind: impl.AllDifferent, Vars: []int{0, 1, 2}}}}, nil, 1)
}

func TestSearchGoesBackToLaterValues(t *testing.T) {
	// Variable 0 must be 2 or more for the others to be different; its smaller values fail one by one.
	m := pairwise(3, 3)
	m.Domains = []int{31, 3, 3}
	checkSolve(t, m, []int{2, 0, 1}, 5)
	m.Domains = []int{3, 31, 3}
	checkSolve(t, m, []int{0, 2, 1}, 3)
	if got := impl.CountSolutions(m); got != 6 {
		t.Errorf("CountSolutions = %d, want 6", got)
	}
	// The first variable with several values is chosen, not the one with the fewest.
	parity := impl.Constraint{Kind: impl.Regular, Vars: []int{0, 1, 2}, Args: []int{1}, Rows: [][]int{{0, 1, 0, 1, 0, 1}, {1, 0, 1, 0, 1, 0}}}
	odd := impl.Model{Domains: []int{63, 3, 3}, Constraints: []impl.Constraint{parity}}
	checkSolve(t, odd, []int{0, 0, 1}, 3)
	even := odd
	even.Constraints = []impl.Constraint{parity, {Kind: impl.Regular, Vars: parity.Vars, Args: []int{0}, Rows: parity.Rows}}
	checkSolve(t, even, nil, 19)
}

func TestCountSolutionsCountsThemAll(t *testing.T) {
	s := newSource(22)
	for range 800 {
		m := s.someModel()
		if got, want := impl.CountSolutions(m), len(solutionsOf(m)); got != want {
			t.Fatalf("CountSolutions(%+v) = %d, want %d", m, got, want)
		}
	}
	for _, c := range []struct {
		m    impl.Model
		want int
	}{
		{impl.Model{Domains: []int{63, 63, 63, 63}}, 1296},
		{impl.Model{Domains: []int{63, 5, 1, 62}}, 60},
		{impl.Model{Domains: []int{0}}, 0},
		{impl.Model{Domains: []int{63, 0}}, 0},
		{pairwise(4, 63), 360},
		{pairwise(4, 7), 0},
		{impl.Model{Domains: []int{63, 63, 63, 63}, Constraints: []impl.Constraint{{Kind: impl.Circuit, Vars: []int{3, 1, 0, 2}}}}, 6},
	} {
		if got := impl.CountSolutions(c.m); got != c.want {
			t.Errorf("CountSolutions(%+v) = %d, want %d", c.m, got, c.want)
		}
	}
}

func TestPromise17SolveAllEnumeratesSolutionsInOrder(t *testing.T) {
	s := newSource(23)
	cut := 0
	for range 600 {
		m := s.someModel()
		all := solutionsOf(m)
		for limit := range 21 {
			want := all[:min(limit, len(all))]
			if got := impl.SolveAll(m, limit); !slices.EqualFunc(got, want, slices.Equal[[]int]) {
				t.Fatalf("SolveAll(%+v, %d) = %v, want %v", m, limit, got, want)
			}
		}
		if len(all) > 20 {
			cut++
		}
	}
	if cut < 50 {
		t.Errorf("only %d models had more solutions than are listed", cut)
	}
}

func TestLimitsOfSolveAll(t *testing.T) {
	if impl.MaxListed != 20 {
		t.Errorf("MaxListed = %d", impl.MaxListed)
	}
	m := impl.Model{Domains: []int{63, 63}}
	for _, limit := range []int{smallestInt, -20, -1, 0, 21, 22, 36, 64, 1 << 32, largestInt} {
		if got := impl.SolveAll(m, limit); len(got) != 0 {
			t.Errorf("SolveAll(m, %d) = %v", limit, got)
		}
	}
	if got := impl.SolveAll(m, 20); len(got) != 20 || !slices.Equal(got[19], []int{3, 1}) {
		t.Errorf("SolveAll(m, 20) = %v", got)
	}
	for _, none := range []impl.Model{{Domains: []int{0}}, pairwise(4, 7)} {
		if got := impl.SolveAll(none, 20); len(got) != 0 {
			t.Errorf("SolveAll(%+v, 20) = %v", none, got)
		}
	}
}

func TestPromise18SplittingADomainSplitsTheSolutions(t *testing.T) {
	s := newSource(24)
	for range 500 {
		m := s.someModel()
		total := impl.CountSolutions(m)
		if total < 0 {
			t.Fatalf("CountSolutions(%+v) = %d", m, total)
		}
		for v, d := range m.Domains {
			sum := 0
			for _, a := range valuesOf(d) {
				sum += impl.CountSolutions(fixed(m, v, a))
			}
			if sum != total {
				t.Fatalf("%+v has %d solutions, but %d if variable %d is split", m, total, sum, v)
			}
		}
	}
}

func TestPromise19BackboneConsistsOfTheValuesInSolutions(t *testing.T) {
	s := newSource(25)
	smaller := 0
	for range 600 {
		m := s.someModel()
		want := make([]int, len(m.Domains))
		for _, x := range solutionsOf(m) {
			for i, v := range x {
				want[i] |= 1 << v
			}
		}
		got := impl.Backbone(m)
		if !slices.Equal(got, want) || !contains(impl.Propagate(m), got) {
			t.Fatalf("Backbone(%+v) = %v, want %v", m, got, want)
		}
		for v, d := range m.Domains {
			for _, a := range valuesOf(d) {
				if impl.DomainHas(got[v], a) != (impl.CountSolutions(fixed(m, v, a)) > 0) {
					t.Fatalf("Backbone(%+v) = %v is wrong about %d for variable %d", m, got, a, v)
				}
			}
		}
		if !slices.Equal(got, impl.Propagate(m)) {
			smaller++
		}
	}
	if smaller == 0 {
		t.Error("propagation alone was always enough")
	}
}

func TestBackbones(t *testing.T) {
	tight := pairwise(3, 3)
	tight.Domains = []int{31, 3, 3}
	for _, c := range []struct {
		m    impl.Model
		want []int
	}{
		// Propagation keeps the values 0 and 1 of variable 0, although the others use them up.
		{tight, []int{28, 3, 3}},
		{pairwise(4, 7), []int{0, 0, 0, 0}},
		{impl.Model{Domains: []int{63, 0}}, []int{0, 0}},
		{impl.Model{Domains: []int{42, 1}}, []int{42, 1}},
	} {
		if got := impl.Backbone(c.m); !slices.Equal(got, c.want) {
			t.Errorf("Backbone(%+v) = %v, want %v", c.m, got, c.want)
		}
	}
	if got := impl.Propagate(tight); !slices.Equal(got, tight.Domains) {
		t.Errorf("Propagate(%+v) = %v", tight, got)
	}
}

func TestSearchRejectsInvalidModels(t *testing.T) {
	for _, m := range invalidModels() {
		if x, nodes := impl.Solve(m); len(x) != 0 || nodes != 0 {
			t.Errorf("Solve(%+v) = %v, %d", m, x, nodes)
		}
		if got := impl.CountSolutions(m); got != -1 {
			t.Errorf("CountSolutions(%+v) = %d", m, got)
		}
		for _, limit := range []int{-1, 0, 1, 20, 21} {
			if got := impl.SolveAll(m, limit); len(got) != 0 {
				t.Errorf("SolveAll(%+v, %d) = %v", m, limit, got)
			}
		}
		if got := impl.Backbone(m); len(got) != 0 {
			t.Errorf("Backbone(%+v) = %v", m, got)
		}
	}
}

// results calls all functions of the search that return lists.
func results(m impl.Model) [][]int {
	x, _ := impl.Solve(m)
	return append([][]int{x, impl.Backbone(m)}, impl.SolveAll(m, 20)...)
}

func TestSearchLeavesItsArgumentsAlone(t *testing.T) {
	s := newSource(26)
	for range 300 {
		m := roomy(s.someModel())
		before := snapshot(m)
		first := results(m)
		want := spoil(t, first)
		impl.CountSolutions(m)
		if !sameModel(before, snapshot(m)) {
			t.Fatal("an argument was changed, or shares memory with a result")
		}
		if !slices.EqualFunc(results(m), want, slices.Equal[[]int]) {
			t.Fatal("a result is kept from call to call")
		}
	}
}

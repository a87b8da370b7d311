package tests

import (
	"slices"
	"testing"

	"loop.example/constraintsolver/impl"
)

// inDomains reports whether every value of x is in its domain.
func inDomains(m impl.Model, x []int) bool {
	for i, v := range x {
		if !impl.DomainHas(m.Domains[i], v) {
			return false
		}
	}
	return true
}

// brokenBy returns the constraints of m that x does not satisfy.
func brokenBy(m impl.Model, x []int) []int {
	var list []int
	for i, c := range m.Constraints {
		if !holds(c, x) {
			list = append(list, i)
		}
	}
	return list
}

func TestPromise6RemovingAConstraintKeepsAllSolutions(t *testing.T) {
	s := newSource(4)
	solutions := 0
	for range 400 {
		m := s.model()
		var smaller []impl.Model
		for i := range m.Constraints {
			r, ok := impl.WithoutConstraint(m, i)
			if !ok {
				t.Fatalf("WithoutConstraint(%+v, %d) fails", m, i)
			}
			smaller = append(smaller, r)
		}
		for _, x := range allAssignments(len(m.Domains)) {
			if !impl.IsSolution(m, x) {
				continue
			}
			solutions++
			for i, r := range smaller {
				if !impl.IsSolution(r, x) {
					t.Fatalf("%v is a solution of %+v, but not without constraint %d", x, m, i)
				}
			}
		}
	}
	if solutions < 1000 {
		t.Errorf("only %d solutions were tested", solutions)
	}
}

func TestPromise7SolutionViolatesNothing(t *testing.T) {
	s := newSource(5)
	for range 400 {
		m := s.model()
		for _, x := range allAssignments(len(m.Domains)) {
			violated := impl.Violated(m, x)
			if want := brokenBy(m, x); !slices.Equal(violated, want) {
				t.Fatalf("Violated(%+v, %v) = %v, want %v", m, x, violated, want)
			}
			if got, want := impl.IsSolution(m, x), inDomains(m, x) && len(violated) == 0; got != want {
				t.Fatalf("IsSolution(%+v, %v) = %v, want %v", m, x, got, want)
			}
		}
	}
}

func TestEveryKindOnAllAssignments(t *testing.T) {
	s := newSource(6)
	for kind := 1; kind <= 9; kind++ {
		seen := map[bool]int{}
		for range 60 {
			c := impl.Constraint{Kind: kind, Vars: s.Perm(3)}
			if kind == impl.NotEqual || kind == impl.Element {
				c.Vars = c.Vars[:2]
			}
			s.fill(&c, len(c.Vars))
			m := impl.Model{Domains: []int{63, 63, 63}, Constraints: []impl.Constraint{c}}
			for _, x := range allAssignments(3) {
				want := holds(c, x)
				seen[want]++
				if got := impl.IsSolution(m, x); got != want {
					t.Fatalf("IsSolution with %+v at %v = %v", c, x, got)
				}
			}
		}
		if seen[true] == 0 || seen[false] == 0 {
			t.Errorf("kind %d was not tested both ways: %v", kind, seen)
		}
	}
}

// checkAt judges one constraint on all variables of assignments that satisfy it, and of others that do not.
func checkAt(t *testing.T, c impl.Constraint, good [][]int, bad [][]int) {
	t.Helper()
	for i, x := range append(slices.Clone(good), bad...) {
		m := impl.Model{Domains: slices.Repeat([]int{63}, len(x)), Constraints: []impl.Constraint{c}}
		if !impl.ValidModel(m) {
			t.Fatalf("%+v is invalid for %d variables", c, len(x))
		}
		if want := i < len(good); impl.IsSolution(m, x) != want || (len(impl.Violated(m, x)) == 0) != want {
			t.Errorf("%+v at %v: IsSolution = %v, Violated = %v", c, x, impl.IsSolution(m, x), impl.Violated(m, x))
		}
	}
}

func TestSumsAndDifferences(t *testing.T) {
	checkAt(t, impl.Constraint{Kind: impl.Linear, Vars: []int{1, 0}, Args: []int{2, -1}, Bound: 3},
		[][]int{{0, 0}, {0, 1}, {1, 2}, {5, 4}}, [][]int{{0, 2}, {4, 4}, {5, 5}})
	checkAt(t, impl.Constraint{Kind: impl.Linear, Vars: []int{0}, Args: []int{-9}, Bound: -45}, [][]int{{5}}, [][]int{{4}, {0}})
	checkAt(t, impl.Constraint{Kind: impl.Linear, Vars: []int{0}, Args: []int{0}, Bound: -1}, nil, [][]int{{0}, {5}})
	checkAt(t, impl.Constraint{Kind: impl.NotEqual, Vars: []int{0, 1}, Args: []int{2}},
		[][]int{{2, 2}, {0, 2}, {3, 0}, {1, 0}}, [][]int{{2, 0}, {5, 3}})
	checkAt(t, impl.Constraint{Kind: impl.NotEqual, Vars: []int{1, 0}, Args: []int{2}}, [][]int{{2, 0}}, [][]int{{0, 2}})
	checkAt(t, impl.Constraint{Kind: impl.NotEqual, Vars: []int{0, 1}, Args: []int{-9}}, [][]int{{0, 0}, {5, 5}, {0, 5}}, nil)
	checkAt(t, impl.Constraint{Kind: impl.AllDifferent, Vars: []int{0, 1, 2, 3}},
		[][]int{{0, 1, 2, 3}, {5, 3, 0, 4}}, [][]int{{0, 1, 2, 0}, {0, 5, 5, 1}, {0, 0, 0, 0}})
	checkAt(t, impl.Constraint{Kind: impl.AllDifferent, Vars: []int{2}}, [][]int{{0, 0, 0}, {1, 1, 5}}, nil)
}

func TestElementsTablesAndCounts(t *testing.T) {
	checkAt(t, impl.Constraint{Kind: impl.Element, Vars: []int{0, 1}, Args: []int{3, 0}},
		[][]int{{0, 3}, {1, 0}}, [][]int{{0, 0}, {1, 3}, {2, 0}, {2, 3}, {5, 0}, {3, 0}})
	checkAt(t, impl.Constraint{Kind: impl.Element, Vars: []int{1, 0}, Args: []int{3, 0}}, [][]int{{3, 0}, {0, 1}}, [][]int{{0, 3}, {1, 0}})
	checkAt(t, impl.Constraint{Kind: impl.Element, Vars: []int{0, 1}, Args: []int{0, 1, 2, 3, 4, 5}}, [][]int{{5, 5}, {0, 0}}, [][]int{{5, 4}})
	checkAt(t, impl.Constraint{Kind: impl.Table, Vars: []int{2, 0}, Rows: [][]int{{1, 2}, {1, 2}, {5, 5}}},
		[][]int{{2, 0, 1}, {5, 3, 5}}, [][]int{{1, 0, 2}, {2, 1, 0}, {5, 5, 1}})
	checkAt(t, impl.Constraint{Kind: impl.Count, Vars: []int{0, 1, 2}, Args: []int{0}, Bound: 2},
		[][]int{{0, 0, 1}, {0, 5, 0}}, [][]int{{0, 0, 0}, {0, 1, 2}, {2, 2, 1}})
	checkAt(t, impl.Constraint{Kind: impl.Count, Vars: []int{1}, Args: []int{5}, Bound: 0}, [][]int{{5, 0}}, [][]int{{0, 5}})
	checkAt(t, impl.Constraint{Kind: impl.Count, Vars: []int{0, 1}, Args: []int{1}, Bound: 3}, nil, [][]int{{1, 1}, {0, 0}})
}

func TestCumulativeCapacity(t *testing.T) {
	// A task does not run at its end.
	checkAt(t, impl.Constraint{Kind: impl.Cumulative, Vars: []int{0, 1}, Args: []int{2, 3, 1, 1}, Bound: 1},
		[][]int{{0, 2}, {3, 0}, {5, 2}}, [][]int{{0, 0}, {0, 1}, {2, 0}, {4, 5}, {4, 2}})
	// Nothing runs for no time, whatever it demands.
	checkAt(t, impl.Constraint{Kind: impl.Cumulative, Vars: []int{0, 1}, Args: []int{0, 1, 9, 0}, Bound: 0}, [][]int{{0, 0}, {5, 4}}, nil)
	checkAt(t, impl.Constraint{Kind: impl.Cumulative, Vars: []int{0}, Args: []int{1, 9}, Bound: 8}, nil, [][]int{{0}, {5}})
	checkAt(t, impl.Constraint{Kind: impl.Cumulative, Vars: []int{0}, Args: []int{9, 9}, Bound: 9}, [][]int{{0}, {5}}, nil)
	// The demands are those of the constraint's own order of variables.
	checkAt(t, impl.Constraint{Kind: impl.Cumulative, Vars: []int{1, 0, 2}, Args: []int{1, 9, 1, 2, 3, 4}, Bound: 5},
		[][]int{{5, 0, 1}, {1, 2, 0}}, [][]int{{0, 5, 1}, {0, 3, 3}})
}

func TestRegularRuns(t *testing.T) {
	// State 1 is reached by an odd number of ones; 5 leads nowhere.
	parity := impl.Constraint{Kind: impl.Regular, Vars: []int{0, 1, 2}, Args: []int{1},
		Rows: [][]int{{0, 1, 0, 0, 0, -1}, {1, 0, 1, 1, 1, -1}}}
	checkAt(t, parity, [][]int{{1, 0, 0}, {1, 1, 1}, {2, 3, 1}}, [][]int{{0, 0, 0}, {1, 1, 0}, {1, 0, 5}, {5, 1, 0}, {1, 5, 1}})
	parity.Args = nil
	checkAt(t, parity, nil, [][]int{{0, 0, 0}, {1, 0, 0}, {5, 5, 5}})
	parity.Args = []int{1, 0}
	checkAt(t, parity, [][]int{{0, 0, 0}, {1, 0, 0}}, [][]int{{5, 0, 0}, {0, 0, 5}})
	// The order of Vars is the order of the word.
	first := impl.Constraint{Kind: impl.Regular, Vars: []int{1, 0}, Args: []int{2},
		Rows: [][]int{{1, -1, -1, -1, -1, -1}, {-1, 2, -1, -1, -1, -1}, sixes(-1)}}
	checkAt(t, first, [][]int{{1, 0}}, [][]int{{0, 1}, {0, 0}, {1, 1}})
}

func TestCircuits(t *testing.T) {
	checkAt(t, impl.Constraint{Kind: impl.Circuit, Vars: []int{0}}, [][]int{{0}}, [][]int{{1}, {5}})
	checkAt(t, impl.Constraint{Kind: impl.Circuit, Vars: []int{0, 1}}, [][]int{{1, 0}}, [][]int{{0, 1}, {0, 0}, {1, 1}, {1, 2}, {2, 0}})
	checkAt(t, impl.Constraint{Kind: impl.Circuit, Vars: []int{0, 1, 2}}, [][]int{{1, 2, 0}, {2, 0, 1}},
		[][]int{{1, 0, 2}, {1, 2, 1}, {1, 2, 2}, {0, 2, 1}, {1, 2, 3}, {3, 0, 1}, {1, 0, 5}, {0, 0, 0}})
	checkAt(t, impl.Constraint{Kind: impl.Circuit, Vars: []int{0, 1, 2, 3}}, [][]int{{1, 2, 3, 0}, {3, 0, 1, 2}, {2, 3, 1, 0}},
		[][]int{{1, 0, 3, 2}, {1, 2, 0, 3}, {1, 2, 3, 1}, {1, 2, 3, 4}, {0, 2, 3, 1}})
	// Values are positions in Vars, not variables.
	checkAt(t, impl.Constraint{Kind: impl.Circuit, Vars: []int{3, 1}}, [][]int{{5, 0, 5, 1}}, [][]int{{0, 3, 0, 1}, {0, 1, 0, 0}})
}

func TestViolatedIgnoresDomains(t *testing.T) {
	m := impl.Model{Domains: []int{0, 1}, Constraints: []impl.Constraint{
		{Kind: impl.Circuit, Vars: []int{0, 1}},
		{Kind: impl.AllDifferent, Vars: []int{0, 1}},
		{Kind: impl.Count, Vars: []int{0, 1}, Args: []int{5}, Bound: 2},
	}}
	for _, c := range []struct{ x, want []int }{{[]int{5, 5}, []int{0, 1}}, {[]int{1, 0}, []int{2}}, {[]int{4, 5}, []int{0, 2}}, {[]int{0, 0}, []int{0, 1, 2}}} {
		if got := impl.Violated(m, c.x); !slices.Equal(got, c.want) {
			t.Errorf("Violated(m, %v) = %v, want %v", c.x, got, c.want)
		}
		if impl.IsSolution(m, c.x) {
			t.Errorf("%v is a solution in spite of the empty domain", c.x)
		}
	}
}

func TestSolutionsOfModelsWithoutConstraints(t *testing.T) {
	m := impl.Model{Domains: []int{5, 32}}
	for _, x := range allAssignments(2) {
		want := (x[0] == 0 || x[0] == 2) && x[1] == 5
		if impl.IsSolution(m, x) != want || len(impl.Violated(m, x)) != 0 {
			t.Errorf("IsSolution(m, %v) = %v, Violated = %v", x, impl.IsSolution(m, x), impl.Violated(m, x))
		}
	}
	for v := -1; v <= 6; v++ {
		if impl.IsSolution(impl.Model{Domains: []int{0}}, []int{v}) {
			t.Errorf("%d is a solution of the empty domain", v)
		}
	}
}

func TestAssignmentsThatAreNone(t *testing.T) {
	never := impl.Constraint{Kind: impl.Linear, Vars: []int{0, 1}, Args: []int{0, 0}, Bound: -1}
	broken := impl.Model{Domains: []int{63, 63}, Constraints: []impl.Constraint{never}}
	free := impl.Model{Domains: []int{63, 63}}
	for _, x := range [][]int{nil, {}, {0}, {0, 0, 0}, {0, -1}, {-1, 0}, {6, 0}, {0, 6}, {smallestInt, 0}, {0, largestInt}, {64, 64}} {
		if got := impl.Violated(broken, x); len(got) != 0 {
			t.Errorf("Violated at %v = %v", x, got)
		}
		if impl.IsSolution(broken, x) || impl.IsSolution(free, x) {
			t.Errorf("%v is a solution", x)
		}
	}
	for _, x := range [][]int{{0, 0}, {5, 5}} {
		if got := impl.Violated(broken, x); !slices.Equal(got, []int{0}) {
			t.Errorf("Violated at %v = %v", x, got)
		}
	}
}

func TestAssignmentsOfInvalidModels(t *testing.T) {
	for _, m := range invalidModels() {
		x := make([]int, len(m.Domains))
		if got := impl.Violated(m, x); len(got) != 0 {
			t.Errorf("Violated(%+v, %v) = %v", m, x, got)
		}
		if impl.IsSolution(m, x) {
			t.Errorf("%v is a solution of the invalid %+v", x, m)
		}
	}
}

func TestChecksLeaveTheirArgumentsAlone(t *testing.T) {
	s := newSource(7)
	for range 300 {
		m := roomy(s.model())
		x := s.list(len(m.Domains), 0, 5)
		before, beforeX := snapshot(m), slices.Clone(x)
		impl.IsSolution(m, x)
		first := impl.Violated(m, x)
		want := slices.Clone(first)
		for i := range first[:cap(first)] {
			first[:cap(first)][i] = 99
		}
		if !sameModel(before, snapshot(m)) || !slices.Equal(x, beforeX) {
			t.Fatal("an argument was changed, or shares memory with a result")
		}
		if !slices.Equal(impl.Violated(m, x), want) {
			t.Fatal("Violated keeps its result")
		}
	}
}

package tests

import (
	"slices"
	"testing"

	"loop.example/constraintsolver/impl"
)

// sixes is a row of an automaton in which every value leads to the same state.
func sixes(state int) []int {
	return []int{state, state, state, state, state, state}
}

// bases returns a valid constraint of each kind for 2 to 4 variables.
func bases() []impl.Constraint {
	return []impl.Constraint{
		{Kind: impl.Linear, Vars: []int{1, 0}, Args: []int{1, -1}, Bound: 3},
		{Kind: impl.NotEqual, Vars: []int{1, 0}, Args: []int{2}},
		{Kind: impl.AllDifferent, Vars: []int{1, 0}},
		{Kind: impl.Element, Vars: []int{1, 0}, Args: []int{3, 1}},
		{Kind: impl.Table, Vars: []int{1, 0}, Rows: [][]int{{2, 0}, {2, 0}}},
		{Kind: impl.Count, Vars: []int{1, 0}, Args: []int{1}, Bound: 2},
		{Kind: impl.Cumulative, Vars: []int{1, 0}, Args: []int{2, 3, 1, 1}, Bound: 1},
		{Kind: impl.Regular, Vars: []int{1, 0}, Rows: [][]int{sixes(1), sixes(-1)}, Args: []int{1}},
		{Kind: impl.Circuit, Vars: []int{1, 0}},
	}
}

// base returns a valid constraint of a kind.
func base(kind int) impl.Constraint {
	return bases()[kind-1]
}

// checkValidity reports a constraint for n variables that is not judged as wanted.
func checkValidity(t *testing.T, c impl.Constraint, n int, want bool) {
	t.Helper()
	if got := impl.ValidConstraint(c, n); got != want {
		t.Errorf("ValidConstraint(%+v, %d) = %v, want %v", c, n, got, want)
	}
}

func TestKindsHaveTheirNumbers(t *testing.T) {
	kinds := []int{impl.Linear, impl.NotEqual, impl.AllDifferent, impl.Element, impl.Table, impl.Count, impl.Cumulative, impl.Regular, impl.Circuit}
	for i, kind := range kinds {
		if kind != i+1 {
			t.Errorf("kind %d has the number %d", i+1, kind)
		}
	}
	if impl.MaxValue != 5 || impl.MaxVars != 4 || impl.MaxConstraints != 6 || impl.MaxRows != 8 {
		t.Error("a limit is wrong")
	}
}

func TestNumberOfVariablesOfAConstraint(t *testing.T) {
	for _, c := range bases() {
		for _, n := range []int{smallestInt, -1, 0, 1, 2, 3, 4, 5, 64, largestInt} {
			checkValidity(t, c, n, n >= 2 && n <= 4)
		}
	}
	for n := 1; n <= 4; n++ {
		for k := 0; k <= 5; k++ {
			vars := []int{4, 3, 2, 1, 0}[5-k:]
			want := k >= 1 && k <= n
			checkValidity(t, impl.Constraint{Kind: impl.AllDifferent, Vars: vars}, n, want)
			checkValidity(t, impl.Constraint{Kind: impl.Circuit, Vars: vars}, n, want)
		}
	}
}

func TestVariablesOfAConstraint(t *testing.T) {
	for _, c := range bases() {
		for _, vars := range [][]int{{0, 1}, {1, 0}, {3, 0}, {2, 3}} {
			c.Vars = vars
			checkValidity(t, c, 4, true)
		}
		for _, vars := range [][]int{nil, {}, {0, 0}, {1, 1}, {0, 4}, {4, 0}, {-1, 0}, {0, smallestInt}, {largestInt, 1}} {
			c.Vars = vars
			checkValidity(t, c, 4, false)
		}
		c.Vars = []int{0, 3}
		checkValidity(t, c, 3, false)
	}
	for _, vars := range [][]int{{0, 1, 2, 3, 0}, {0, 1, 0}, {3, 2, 1, 3}, make([]int, 100000)} {
		checkValidity(t, impl.Constraint{Kind: impl.AllDifferent, Vars: vars}, 4, false)
	}
}

func TestUnknownKinds(t *testing.T) {
	for _, c := range bases() {
		for _, kind := range []int{smallestInt, -1, 0, 10, 11, 64, largestInt} {
			c.Kind = kind
			checkValidity(t, c, 2, false)
		}
	}
	checkValidity(t, impl.Constraint{}, 1, false)
	checkValidity(t, impl.Constraint{Vars: []int{0}}, 1, false)
}

func TestFieldsThatAKindDoesNotMention(t *testing.T) {
	for _, c := range bases() {
		usesArgs := c.Args != nil
		usesRows := c.Rows != nil
		usesBound := c.Bound != 0
		for _, bound := range []int{-1, 1, smallestInt, largestInt} {
			if changed := c; !usesBound {
				changed.Bound = bound
				checkValidity(t, changed, 2, false)
			}
		}
		for _, args := range [][]int{{0}, {1, 0}, {0, 1, 0, 1}} {
			if changed := c; !usesArgs {
				changed.Args = args
				checkValidity(t, changed, 2, false)
			}
		}
		for _, rows := range [][][]int{{nil}, {{}}, {{0}}, {{0, 1}}, {sixes(0)}} {
			if changed := c; !usesRows {
				changed.Rows = rows
				checkValidity(t, changed, 2, false)
			}
		}
		if !usesArgs {
			c.Args = []int{}
		}
		if !usesRows {
			c.Rows = [][]int{}
		}
		checkValidity(t, c, 2, true)
	}
}

// checkArgs judges a kind with different Args.
func checkArgs(t *testing.T, kind int, want bool, lists ...[]int) {
	t.Helper()
	for _, args := range lists {
		c := base(kind)
		c.Args = args
		checkValidity(t, c, 2, want)
	}
}

// checkBounds judges a kind with different Bounds.
func checkBounds(t *testing.T, kind int, want bool, bounds ...int) {
	t.Helper()
	for _, bound := range bounds {
		c := base(kind)
		c.Bound = bound
		checkValidity(t, c, 2, want)
	}
}

// checkRows judges a kind with different Rows.
func checkRows(t *testing.T, kind int, want bool, lists ...[][]int) {
	t.Helper()
	for _, rows := range lists {
		c := base(kind)
		c.Rows = rows
		checkValidity(t, c, 2, want)
	}
}

// checkVars judges a kind with different Vars for 4 variables.
func checkVars(t *testing.T, kind int, want bool, lists ...[]int) {
	t.Helper()
	for _, vars := range lists {
		c := base(kind)
		c.Vars = vars
		checkValidity(t, c, 4, want)
	}
}

func TestLinearRequirements(t *testing.T) {
	checkArgs(t, impl.Linear, true, []int{-9, 9}, []int{0, 0})
	checkArgs(t, impl.Linear, false, nil, []int{1}, []int{1, 1, 1}, []int{-10, 1}, []int{1, -10}, []int{10, 1}, []int{1, 10}, []int{largestInt, smallestInt})
	checkBounds(t, impl.Linear, true, -999, -1, 0, 999)
	checkBounds(t, impl.Linear, false, -1000, 1000, smallestInt, largestInt)
	checkVars(t, impl.Linear, false, []int{0}, []int{0, 1, 2})
	checkValidity(t, impl.Constraint{Kind: impl.Linear, Vars: []int{0}, Args: []int{9}, Bound: 999}, 1, true)
	checkValidity(t, impl.Constraint{Kind: impl.Linear, Vars: []int{3, 2, 1, 0}, Args: []int{-9, 9, 0, 1}, Bound: -999}, 4, true)
}

func TestNotEqualRequirements(t *testing.T) {
	checkArgs(t, impl.NotEqual, true, []int{-9}, []int{0}, []int{9})
	checkArgs(t, impl.NotEqual, false, nil, []int{0, 0}, []int{-10}, []int{10}, []int{smallestInt}, []int{largestInt})
	checkVars(t, impl.NotEqual, false, []int{0}, []int{0, 1, 2}, []int{0, 1, 2, 3})
}

func TestElementRequirements(t *testing.T) {
	checkArgs(t, impl.Element, true, []int{0}, []int{5}, []int{5, 5}, []int{0, 1, 2, 3, 4, 5})
	checkArgs(t, impl.Element, false, nil, []int{}, make([]int, 7), []int{-1}, []int{6}, []int{0, 6}, []int{0, 1, 2, 3, 4, -1}, []int{largestInt})
	checkVars(t, impl.Element, false, []int{0}, []int{0, 1, 2}, []int{0, 1, 2, 3})
}

func TestTableRequirements(t *testing.T) {
	eight := slices.Repeat([][]int{{0, 5}}, 8)
	checkRows(t, impl.Table, true, [][]int{{0, 5}}, eight)
	checkRows(t, impl.Table, false, nil, [][]int{}, [][]int{nil}, [][]int{{}}, [][]int{{0}}, [][]int{{0, 1, 2}}, [][]int{{0, 1}, {0}},
		[][]int{{0, -1}}, [][]int{{6, 0}}, [][]int{{0, 0}, {0, 6}}, [][]int{{largestInt, 0}}, append(slices.Clone(eight), []int{0, 5}))
	checkVars(t, impl.Table, false, []int{0}, []int{0, 1, 2})
	checkValidity(t, impl.Constraint{Kind: impl.Table, Vars: []int{2}, Rows: [][]int{{5}}}, 3, true)
	checkValidity(t, impl.Constraint{Kind: impl.Table, Vars: []int{2, 0, 3, 1}, Rows: [][]int{{0, 1, 2, 3}, {5, 5, 5, 5}}}, 4, true)
}

func TestCountRequirements(t *testing.T) {
	checkArgs(t, impl.Count, true, []int{0}, []int{5})
	checkArgs(t, impl.Count, false, nil, []int{}, []int{0, 0}, []int{-1}, []int{6}, []int{smallestInt}, []int{largestInt})
	checkBounds(t, impl.Count, true, 0, 3, 4)
	checkBounds(t, impl.Count, false, -1, 5, smallestInt, largestInt)
	checkVars(t, impl.Count, true, []int{0}, []int{0, 1, 2}, []int{0, 1, 2, 3})
}

func TestCumulativeRequirements(t *testing.T) {
	checkArgs(t, impl.Cumulative, true, []int{0, 0, 0, 0}, []int{9, 9, 9, 9})
	checkArgs(t, impl.Cumulative, false, nil, []int{1, 1}, []int{1, 1, 1}, []int{1, 1, 1, 1, 1}, []int{-1, 1, 1, 1}, []int{1, 1, 1, -1},
		[]int{1, 10, 1, 1}, []int{1, 1, 10, 1}, []int{1, 1, 1, largestInt})
	checkBounds(t, impl.Cumulative, true, 0, 9)
	checkBounds(t, impl.Cumulative, false, -1, 10, smallestInt, largestInt)
	checkVars(t, impl.Cumulative, false, []int{0}, []int{0, 1, 2}, []int{0, 1, 2, 3})
	checkValidity(t, impl.Constraint{Kind: impl.Cumulative, Vars: []int{0}, Args: []int{9, 0}, Bound: 9}, 1, true)
}

func TestRegularRequirements(t *testing.T) {
	checkArgs(t, impl.Regular, true, nil, []int{0}, []int{0, 1}, []int{1, 0})
	checkArgs(t, impl.Regular, false, []int{-1}, []int{2}, []int{0, 0}, []int{1, 1}, []int{0, 1, 0}, []int{1, 2}, []int{smallestInt}, []int{largestInt}, make([]int, 100000))
	eight := slices.Repeat([][]int{sixes(7)}, 8)
	checkRows(t, impl.Regular, true, eight, [][]int{sixes(-1), sixes(1)}, [][]int{{-1, 0, 1, -1, 0, 1}, sixes(0)})
	checkRows(t, impl.Regular, false, nil, [][]int{}, [][]int{sixes(0)}, [][]int{sixes(2), sixes(0)}, [][]int{sixes(0), sixes(2)},
		[][]int{sixes(-2), sixes(0)}, [][]int{sixes(0), {0, 0, 0, 0, 0}}, [][]int{sixes(0), make([]int, 7)}, [][]int{sixes(0), nil},
		[][]int{sixes(0), {0, 0, 0, 0, 0, largestInt}}, append(slices.Clone(eight), sixes(7)))
	checkVars(t, impl.Regular, true, []int{0}, []int{0, 1, 2}, []int{0, 1, 2, 3})
	all := impl.Constraint{Kind: impl.Regular, Vars: []int{0}, Rows: eight, Args: []int{7, 6, 5, 4, 3, 2, 1, 0}}
	checkValidity(t, all, 1, true)
	all.Args = append(slices.Clone(all.Args), 8)
	checkValidity(t, all, 1, false)
	for _, args := range [][]int{nil, {0}} {
		checkValidity(t, impl.Constraint{Kind: impl.Regular, Vars: []int{0}, Rows: [][]int{sixes(0)}, Args: args}, 1, true)
		checkValidity(t, impl.Constraint{Kind: impl.Regular, Vars: []int{0}, Rows: [][]int{sixes(1)}, Args: args}, 1, false)
	}
}

// checkModel reports a model that is not judged as wanted.
func checkModel(t *testing.T, m impl.Model, want bool) {
	t.Helper()
	if got := impl.ValidModel(m); got != want {
		t.Errorf("ValidModel(%+v) = %v, want %v", m, got, want)
	}
}

func TestDomainsOfAModel(t *testing.T) {
	for n := 0; n <= 6; n++ {
		checkModel(t, impl.Model{Domains: make([]int, n)}, n >= 1 && n <= 4)
	}
	checkModel(t, impl.Model{}, false)
	checkModel(t, impl.Model{Domains: []int{0, 63, 0, 32}}, true)
	for _, d := range invalidDomains() {
		checkModel(t, impl.Model{Domains: []int{d}}, false)
		checkModel(t, impl.Model{Domains: []int{63, 1, 0, d}}, false)
	}
}

func TestConstraintsOfAModel(t *testing.T) {
	for n := 0; n <= 8; n++ {
		constraints := slices.Repeat([]impl.Constraint{base(impl.Circuit)}, n)
		checkModel(t, impl.Model{Domains: []int{63, 63}, Constraints: constraints}, n <= 6)
	}
	for _, c := range bases() {
		checkModel(t, impl.Model{Domains: []int{0, 63}, Constraints: []impl.Constraint{c}}, true)
		checkModel(t, impl.Model{Domains: []int{63}, Constraints: []impl.Constraint{c}}, false)
		bad := c
		bad.Vars = []int{1, 1}
		checkModel(t, impl.Model{Domains: []int{63, 63}, Constraints: []impl.Constraint{c, bad}}, false)
		checkModel(t, impl.Model{Domains: []int{63, 63}, Constraints: []impl.Constraint{bad, c}}, false)
	}
	checkModel(t, impl.Model{Constraints: []impl.Constraint{base(impl.Circuit)}}, false)
}

func TestGeneratedModelsAreValid(t *testing.T) {
	s := newSource(1)
	for range 2000 {
		checkModel(t, s.model(), true)
	}
}

func TestPromise5RemovingAnAddedConstraintRestoresTheModel(t *testing.T) {
	s := newSource(2)
	for range 3000 {
		m := s.model()
		c := s.constraint(len(m.Domains))
		larger, ok := impl.WithConstraint(m, c)
		if len(m.Constraints) == 6 {
			if ok || !isZeroModel(larger) {
				t.Fatalf("WithConstraint adds constraint 7: %+v", larger)
			}
			continue
		}
		last := len(m.Constraints)
		if !ok || !impl.ValidModel(larger) || len(larger.Constraints) != last+1 || !sameConstraint(larger.Constraints[last], c) {
			t.Fatalf("WithConstraint(%+v, %+v) = %+v, %v", m, c, larger, ok)
		}
		restored, ok := impl.WithoutConstraint(larger, last)
		if !ok || !sameModel(restored, m) {
			t.Fatalf("WithoutConstraint(%+v, %d) = %+v, %v, want %+v", larger, last, restored, ok, m)
		}
	}
}

func TestWithoutConstraintKeepsTheOthersInOrder(t *testing.T) {
	m := impl.Model{Domains: []int{1, 0, 63}, Constraints: bases()[:6]}
	for i := range m.Constraints {
		want := impl.Model{Domains: m.Domains, Constraints: slices.Delete(slices.Clone(m.Constraints), i, i+1)}
		if got, ok := impl.WithoutConstraint(m, i); !ok || !sameModel(got, want) {
			t.Errorf("WithoutConstraint(m, %d) = %+v, %v", i, got, ok)
		}
	}
}

func TestWithConstraintFails(t *testing.T) {
	good := base(impl.Circuit)
	full := impl.Model{Domains: []int{3, 3}, Constraints: slices.Repeat([]impl.Constraint{good}, 6)}
	for _, c := range []struct {
		m impl.Model
		c impl.Constraint
	}{
		{full, good},
		{impl.Model{}, good},
		{impl.Model{Domains: []int{3}}, good},
		{impl.Model{Domains: []int{3, 64}}, good},
		{impl.Model{Domains: []int{1, 1, 1, 1, 1}}, good},
		{impl.Model{Domains: []int{3, 3}}, impl.Constraint{}},
		{impl.Model{Domains: []int{3, 3}}, impl.Constraint{Kind: impl.Circuit, Vars: []int{0, 1}, Bound: 1}},
		{impl.Model{Domains: []int{3, 3}, Constraints: []impl.Constraint{{}}}, good},
		{impl.Model{Domains: []int{3, 3}, Constraints: slices.Repeat([]impl.Constraint{good}, 7)}, good},
	} {
		if got, ok := impl.WithConstraint(c.m, c.c); ok || !isZeroModel(got) {
			t.Errorf("WithConstraint(%+v, %+v) = %+v, %v", c.m, c.c, got, ok)
		}
	}
}

func TestWithoutConstraintFails(t *testing.T) {
	good := base(impl.Circuit)
	m := impl.Model{Domains: []int{3, 3}, Constraints: []impl.Constraint{good, good}}
	for _, i := range []int{smallestInt, -1, 2, 3, largestInt} {
		if got, ok := impl.WithoutConstraint(m, i); ok || !isZeroModel(got) {
			t.Errorf("WithoutConstraint(m, %d) = %+v, %v", i, got, ok)
		}
	}
	for _, m := range []impl.Model{
		{Domains: []int{3, 3}},
		{},
		{Constraints: []impl.Constraint{good}},
		{Domains: []int{3, -1}, Constraints: []impl.Constraint{good}},
		{Domains: []int{3, 3}, Constraints: []impl.Constraint{{}}},
		{Domains: []int{3, 3}, Constraints: slices.Repeat([]impl.Constraint{good}, 7)},
	} {
		if got, ok := impl.WithoutConstraint(m, 0); ok || !isZeroModel(got) {
			t.Errorf("WithoutConstraint(%+v, 0) = %+v, %v", m, got, ok)
		}
	}
}

// intSlices returns all slices of numbers of m, up to their capacity.
func intSlices(m impl.Model) [][]int {
	list := [][]int{m.Domains}
	for _, c := range m.Constraints[:cap(m.Constraints)] {
		list = append(list, c.Vars, c.Args)
		list = append(list, c.Rows[:cap(c.Rows)]...)
	}
	for i, s := range list {
		list[i] = s[:cap(s)]
	}
	return list
}

// overwrite fills all memory of m, and reports whether two slices of m share memory.
func overwrite(m impl.Model) bool {
	list := intSlices(m)
	for i, s := range list {
		for j := range s {
			s[j] = 1000*i + j + 100
		}
	}
	for i, s := range list {
		for j := range s {
			if s[j] != 1000*i+j+100 {
				return true
			}
		}
	}
	for _, c := range m.Constraints {
		clear(c.Rows[:cap(c.Rows)])
	}
	clear(m.Constraints[:cap(m.Constraints)])
	return false
}

// roomy returns m with spare capacity in all its slices.
func roomy(m impl.Model) impl.Model {
	grown := impl.Model{Domains: slices.Grow(slices.Clone(m.Domains), 9), Constraints: slices.Grow(slices.Clone(m.Constraints), 9)}
	for i, c := range grown.Constraints {
		rows := slices.Grow(slices.Clone(c.Rows), 9)
		for j, row := range rows {
			rows[j] = slices.Grow(slices.Clone(row), 9)
		}
		grown.Constraints[i].Rows = rows
		grown.Constraints[i].Vars = slices.Grow(slices.Clone(c.Vars), 9)
		grown.Constraints[i].Args = slices.Grow(slices.Clone(c.Args), 9)
	}
	return grown
}

// snapshot returns a copy of m with everything up to the capacity of its slices.
func snapshot(m impl.Model) impl.Model {
	full := impl.Model{Domains: m.Domains[:cap(m.Domains)]}
	for _, c := range m.Constraints[:cap(m.Constraints)] {
		c = cloneConstraint(impl.Constraint{Kind: c.Kind, Vars: c.Vars[:cap(c.Vars)], Args: c.Args[:cap(c.Args)], Bound: c.Bound, Rows: c.Rows[:cap(c.Rows)]})
		full.Constraints = append(full.Constraints, c)
	}
	return cloneModel(full)
}

func TestModelsShareNoMemoryWithArguments(t *testing.T) {
	s := newSource(3)
	for range 500 {
		m := roomy(s.model())
		// The added constraint shares its memory with one of the model, if there is one.
		c := s.constraint(len(m.Domains))
		if len(m.Constraints) > 0 {
			c = m.Constraints[0]
		}
		before, beforeC := snapshot(m), cloneConstraint(c)
		if larger, ok := impl.WithConstraint(m, c); ok && overwrite(larger) {
			t.Fatal("two slices of the result of WithConstraint share memory")
		}
		if smaller, ok := impl.WithoutConstraint(m, 0); ok && overwrite(smaller) {
			t.Fatal("two slices of the result of WithoutConstraint share memory")
		}
		if !sameModel(before, snapshot(m)) || !sameConstraint(beforeC, c) {
			t.Fatal("an argument was changed, or shares memory with a result")
		}
	}
}

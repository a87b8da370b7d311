package tests

import (
	"slices"
	"testing"

	"loop.example/constraintsolver/impl"
)

// probed is Probe by its definition, for valid arguments.
func probed(m impl.Model, v int, a int) []int {
	return propagated(restrictedTo(m, clause(is(v, a))))
}

// withDomains returns m with other domains.
func withDomains(m impl.Model, domains []int) impl.Model {
	return impl.Model{Domains: domains, Constraints: m.Constraints}
}

// failingProbes returns the domains of the values whose probe leaves the domains empty.
func failingProbes(m impl.Model) []int {
	failing := make([]int, len(m.Domains))
	for v, d := range m.Domains {
		for _, a := range valuesOf(d) {
			if impl.Propagate(fixed(m, v, a))[0] == 0 {
				failing[v] |= 1 << a
			}
		}
	}
	return failing
}

// shavedOf is Shave by its definition. It removes one value at a time, the last one of those whose probe fails, and
// propagates again before the next one.
func shavedOf(m impl.Model) []int {
	for {
		m = withDomains(m, impl.Propagate(m))
		failing := failingProbes(m)
		v := len(failing) - 1
		for v >= 0 && failing[v] == 0 {
			v--
		}
		if v < 0 {
			return m.Domains
		}
		values := valuesOf(failing[v])
		m.Domains[v] &^= 1 << values[len(values)-1]
	}
}

// shavedOnce returns the domains without the values whose probe fails before any value is removed for that reason.
func shavedOnce(m impl.Model) []int {
	m = withDomains(m, impl.Propagate(m))
	for v, values := range failingProbes(m) {
		m.Domains[v] &^= values
	}
	return impl.Propagate(m)
}

// withoutBound removes one value that bounds consistency removes from the domains. It returns false if there is none.
func withoutBound(m impl.Model, domains []int) bool {
	for _, c := range m.Constraints {
		for v, left := range impl.Filter(c, domains) {
			values := valuesOf(domains[v])
			if len(values) == 0 {
				continue
			}
			for _, a := range []int{values[0], values[len(values)-1]} {
				if left>>a&1 == 0 {
					domains[v] &^= 1 << a
					return true
				}
			}
		}
	}
	return false
}

// boundedOf is BoundsPropagate by its definition. It removes one value at a time.
func boundedOf(m impl.Model) []int {
	domains := slices.Clone(m.Domains)
	for withoutBound(m, domains) {
	}
	if slices.Contains(domains, 0) {
		clear(domains)
	}
	return domains
}

// backboneOf is Backbone by its definition.
func backboneOf(m impl.Model) []int {
	domains := make([]int, len(m.Domains))
	for _, x := range solutionsOf(m) {
		for v, a := range x {
			domains[v] |= 1 << a
		}
	}
	return domains
}

// sizeOf returns the total number of values of domains.
func sizeOf(domains []int) int {
	n := 0
	for _, d := range domains {
		n += len(valuesOf(d))
	}
	return n
}

// layered returns a model in which the first variable cannot be 0, which a probe shows only after another probe has shown
// that the second variable cannot be 0. The third variable may have both of its values.
func layered() impl.Model {
	x, yx := []int{1, 2}, []int{0, 1, 2}
	return impl.Model{Domains: []int{3, 3, 3}, Constraints: []impl.Constraint{
		table(x, []int{0, 0}, []int{1, 0}, []int{1, 1}),
		table(x, []int{0, 1}, []int{1, 0}, []int{1, 1}),
		table(yx, []int{0, 0, 0}, []int{0, 0, 1}, []int{0, 1, 0}, []int{1, 0, 0}, []int{1, 0, 1}, []int{1, 1, 0}, []int{1, 1, 1}),
		table(yx, []int{0, 0, 0}, []int{0, 0, 1}, []int{0, 1, 1}, []int{1, 0, 0}, []int{1, 0, 1}, []int{1, 1, 0}, []int{1, 1, 1}),
	}}
}

// excludingOne returns a constraint that excludes only one of the tuples of two or three variables with the values a and b.
func (s source) excludingOne(vars []int, a int, b int) impl.Constraint {
	rows := [][]int{{}}
	for range vars {
		var longer [][]int
		for _, row := range rows {
			longer = append(longer, append(slices.Clone(row), a), append(slices.Clone(row), b))
		}
		rows = longer
	}
	i := s.IntN(len(rows))
	return table(vars, slices.Delete(rows, i, i+1)...)
}

// binary returns models with two values, each of whose constraints excludes only one tuple. Often the probe of a value
// fails only after the probe of another one has failed.
func (s source) binary() impl.Model {
	a := s.between(0, 4)
	b := s.between(a+1, 5)
	m := impl.Model{Domains: slices.Repeat([]int{1<<a | 1<<b}, 4)}
	for range 6 {
		m.Constraints = append(m.Constraints, s.excludingOne(s.Perm(4)[:s.between(2, 3)], a, b))
	}
	return m
}

// patchy returns models in which consistencies of different strength often leave different domains.
func (s source) patchy() impl.Model {
	switch s.IntN(6) {
	case 0:
		return s.hardModel()
	case 1:
		return s.chainModel()
	case 2, 3:
		return s.binary()
	}
	m := s.tangledModel()
	n := len(m.Domains)
	for len(m.Constraints) < 6 && s.IntN(3) > 0 {
		c := impl.Constraint{Kind: impl.NotEqual, Vars: s.Perm(n)[:2], Args: s.list(1, -2, 2)}
		if s.IntN(2) == 0 {
			c = table(c.Vars, s.rows(8, 2, 0, 5)...)
		}
		m.Constraints = append(m.Constraints, c)
	}
	return m
}

// checkProbe reports a probe that does not leave the wanted domains.
func checkProbe(t *testing.T, m impl.Model, v int, a int, want ...int) {
	t.Helper()
	if got := impl.Probe(m, v, a); !slices.Equal(got, want) {
		t.Errorf("Probe(%+v, %d, %d) = %v, want %v", m, v, a, got, want)
	}
}

// checkShave reports a model of which Shave does not leave the wanted domains.
func checkShave(t *testing.T, m impl.Model, want ...int) {
	t.Helper()
	if got := impl.Shave(m); !slices.Equal(got, want) {
		t.Errorf("Shave(%+v) = %v, want %v", m, got, want)
	}
}

// checkSingleton reports a model that IsSingletonConsistent judges wrongly.
func checkSingleton(t *testing.T, m impl.Model, want bool) {
	t.Helper()
	if impl.IsSingletonConsistent(m) != want {
		t.Errorf("IsSingletonConsistent(%+v) = %v", m, !want)
	}
}

// checkBounded reports a model of which BoundsPropagate does not leave the wanted domains.
func checkBounded(t *testing.T, m impl.Model, want ...int) {
	t.Helper()
	if got := impl.BoundsPropagate(m); !slices.Equal(got, want) {
		t.Errorf("BoundsPropagate(%+v) = %v, want %v", m, got, want)
	}
}

// checkSizes reports a model for which ConsistencySizes does not return the wanted numbers.
func checkSizes(t *testing.T, m impl.Model, want ...int) {
	t.Helper()
	if got := impl.ConsistencySizes(m); !slices.Equal(got, want) {
		t.Errorf("ConsistencySizes(%+v) = %v, want %v", m, got, want)
	}
}

// checkShavedBound reports a model for which ShavedBound does not return the wanted bound.
func checkShavedBound(t *testing.T, m impl.Model, obj []int, want int) {
	t.Helper()
	if got, ok := impl.ShavedBound(m, obj); !ok || got != want {
		t.Errorf("ShavedBound(%+v, %v) = %d, %v, want %d", m, obj, got, ok, want)
	}
}

// checkNoShavedBound reports a model for which ShavedBound should fail.
func checkNoShavedBound(t *testing.T, m impl.Model, obj []int) {
	t.Helper()
	if got, ok := impl.ShavedBound(m, obj); ok || got != 0 {
		t.Errorf("ShavedBound(%+v, %v) = %d, %v", m, obj, got, ok)
	}
}

func TestPromise80ProbePreservesTheSolutionsWithItsValue(t *testing.T) {
	s := newSource(160)
	seen := map[bool]int{}
	for range 900 {
		m := s.provable()
		v, a := s.IntN(len(m.Domains)), s.IntN(6)
		domains := impl.Probe(m, v, a)
		if !contains(impl.Propagate(m), domains) {
			t.Fatalf("Probe(%+v, %d, %d) = %v", m, v, a, domains)
		}
		for _, x := range solutionsOf(m) {
			if x[v] == a && !inDomains(impl.Model{Domains: domains}, x) {
				t.Fatalf("Probe(%+v, %d, %d) = %v loses %v", m, v, a, domains, x)
			}
		}
		seen[domains[0] == 0]++
	}
	if seen[true] < 200 || seen[false] < 200 {
		t.Errorf("the probes were not balanced: %v", seen)
	}
}

func TestProbeByItsDefinition(t *testing.T) {
	s := newSource(161)
	for range 100 {
		m := s.provable()
		for v := range m.Domains {
			for a := range 6 {
				checkProbe(t, m, v, a, probed(m, v, a)...)
			}
		}
	}
}

func TestProbes(t *testing.T) {
	m := pairwise(3, 7)
	checkProbe(t, m, 0, 0, 1, 6, 6)
	checkProbe(t, m, 1, 2, 3, 4, 3)
	// Values that are not in the domain, and probes that fail.
	checkProbe(t, m, 0, 3, 0, 0, 0)
	checkProbe(t, m, 2, 5, 0, 0, 0)
	checkProbe(t, pairwise(3, 3), 2, 1, 0, 0, 0)
	checkProbe(t, impl.Model{Domains: []int{63, 1}}, 1, 0, 63, 1)
	checkProbe(t, impl.Model{Domains: []int{63, 1}}, 1, 1, 0, 0)
	// A domain that is empty in the model, that of the variable or another one.
	checkProbe(t, impl.Model{Domains: []int{63, 0}}, 0, 3, 0, 0)
	checkProbe(t, impl.Model{Domains: []int{63, 0}}, 1, 3, 0, 0)
}

func TestPromise81ProbingAFixedVariableIsPropagation(t *testing.T) {
	s := newSource(162)
	seen, restricted := 0, 0
	for range 1500 {
		m := s.provable()
		domains := impl.Propagate(m)
		for v, d := range domains {
			if values := valuesOf(d); len(values) == 1 {
				checkProbe(t, m, v, values[0], domains...)
				seen++
				if m.Domains[v] != d {
					restricted++
				}
			}
		}
	}
	if seen < 300 || restricted < 100 {
		t.Errorf("propagation fixed %d variables, %d of them with further values", seen, restricted)
	}
}

func TestPromise82ShavingIsStrongerThanPropagationAndSound(t *testing.T) {
	s := newSource(163)
	seen := map[bool]int{}
	for range 500 {
		m := s.patchy()
		domains, weaker := impl.Shave(m), impl.Propagate(m)
		if !contains(weaker, domains) || !contains(domains, backboneOf(m)) {
			t.Fatalf("Shave(%+v) = %v, Propagate = %v, and the backbone is %v", m, domains, weaker, backboneOf(m))
		}
		checkShave(t, withDomains(m, domains), domains...)
		if domains[0] != 0 {
			seen[slices.Equal(domains, weaker)]++
		}
	}
	if seen[true] < 50 || seen[false] < 50 {
		t.Errorf("shaving removed something %d times, and nothing %d times", seen[false], seen[true])
	}
}

func TestShaveByItsDefinition(t *testing.T) {
	s := newSource(164)
	failed, again := 0, 0
	for range 2000 {
		m := s.patchy()
		want := shavedOf(m)
		checkShave(t, m, want...)
		if want[0] == 0 && impl.Propagate(m)[0] != 0 {
			failed++
		}
		if want[0] != 0 && !slices.Equal(want, shavedOnce(m)) {
			again++
		}
	}
	if failed < 100 || again < 15 {
		t.Errorf("only shaving failed %d times, and needed another round %d times", failed, again)
	}
}

func TestShavingInRounds(t *testing.T) {
	m := cloneModel(layered())
	checkShave(t, m, 2, 2, 3)
	checkProbe(t, m, 0, 0, 1, 3, 3)
	checkProbe(t, m, 1, 0, 0, 0, 0)
	if got := impl.Propagate(m); !slices.Equal(got, []int{3, 3, 3}) {
		t.Errorf("Propagate(%+v) = %v", m, got)
	}
	// It does not matter which of both variables comes first.
	for i := range m.Constraints {
		for j, v := range m.Constraints[i].Vars {
			m.Constraints[i].Vars[j] = 2 - v
		}
	}
	checkShave(t, m, 3, 2, 2)
	slices.Reverse(m.Constraints)
	checkShave(t, m, 3, 2, 2)
}

func TestValuesThatBecomeImpossibleWhileOthersAreProbed(t *testing.T) {
	// Without the value 0 of the first variable, propagation excludes the other two, and so all values of the others.
	checkShave(t, funnel(), 0, 0, 0)
	// With a fourth value of the first variable, only that one and those that go with it are left.
	m := funnel()
	m.Domains = []int{15, 7, 7}
	for i := range 2 {
		m.Constraints[i].Rows = append(m.Constraints[i].Rows, []int{3, i + 1})
	}
	checkShave(t, m, 8, 2, 4)
	checkProbe(t, m, 0, 3, 8, 2, 4)
	// Here propagation removes a value of the second variable while the first one is probed, and that fixes the third.
	next := impl.Model{Domains: []int{3, 3, 3, 3}, Constraints: append(pairwise(3, 3).Constraints[:1],
		table([]int{0, 3}, []int{0, 0}, []int{1, 0}, []int{1, 1}), table([]int{0, 3}, []int{0, 1}, []int{1, 0}, []int{1, 1}),
		impl.Constraint{Kind: impl.NotEqual, Vars: []int{1, 2}, Args: []int{0}})}
	checkShave(t, next, 2, 1, 2, 3)
}

func TestShavingFailsForAllDomains(t *testing.T) {
	checkShave(t, pairwise(3, 3), 0, 0, 0)
	checkShave(t, pairwise(2, 1), 0, 0)
	checkShave(t, disagreement(63), 0, 0)
	// Also those of variables without constraints.
	m := disagreement(7)
	m.Domains = append(m.Domains, 63)
	checkShave(t, m, 0, 0, 0)
	for _, domains := range [][]int{{0}, {63, 0}, {0, 1, 2, 4}} {
		checkShave(t, impl.Model{Domains: domains}, make([]int, len(domains))...)
	}
	// Shaving is not search: four variables with three values have no solution, but every single value is possible.
	checkShave(t, pairwise(4, 7), 7, 7, 7, 7)
	checkShave(t, impl.Model{Domains: []int{63, 5}}, 63, 5)
}

func TestPromise83ShavingEstablishesSingletonConsistency(t *testing.T) {
	s := newSource(165)
	seen := map[bool]int{}
	for range 500 {
		m := s.patchy()
		domains := impl.Shave(m)
		shaved := withDomains(m, domains)
		checkSingleton(t, shaved, domains[0] != 0)
		for _, m := range []impl.Model{m, shaved} {
			got := impl.IsSingletonConsistent(m)
			seen[got]++
			if got && !(slices.Equal(impl.Shave(m), m.Domains) && impl.IsConsistent(m)) {
				t.Fatalf("IsSingletonConsistent(%+v), but Shave = %v", m, impl.Shave(m))
			}
		}
	}
	if seen[true] < 100 || seen[false] < 100 {
		t.Errorf("the models were not balanced: %v", seen)
	}
}

func TestIsSingletonConsistentByItsDefinition(t *testing.T) {
	s := newSource(166)
	seen := map[int]int{}
	for i := range 600 {
		m := s.patchy()
		if i%3 > 0 {
			m = withDomains(m, impl.Propagate(m))
		}
		if i%6 == 5 {
			m = withDomains(m, impl.Shave(m))
		}
		failing := sizeOf(failingProbes(m))
		checkSingleton(t, m, failing == 0 && !slices.Contains(m.Domains, 0))
		seen[failing]++
	}
	if seen[0] < 50 || seen[1] < 20 {
		t.Errorf("the models were not balanced: %v", seen)
	}
}

func TestSingletonConsistency(t *testing.T) {
	checkSingleton(t, pairwise(3, 3), false)
	checkSingleton(t, pairwise(3, 7), true)
	checkSingleton(t, pairwise(4, 7), true)
	checkSingleton(t, layered(), false)
	checkSingleton(t, withDomains(layered(), []int{2, 2, 3}), true)
	checkSingleton(t, withDomains(layered(), []int{3, 2, 3}), false)
	checkSingleton(t, funnel(), false)
	// The domains are those of the model, before propagation.
	checkSingleton(t, withDomains(pairwise(2, 3), []int{3, 2}), false)
	checkSingleton(t, withDomains(pairwise(2, 3), []int{1, 2}), true)
	// Only the value of the last variable is impossible.
	checkSingleton(t, impl.Model{Domains: []int{63, 63, 63}, Constraints: []impl.Constraint{table([]int{2}, []int{0}, []int{1})}}, false)
	checkSingleton(t, impl.Model{Domains: []int{63, 1}}, true)
	for _, domains := range [][]int{{0}, {63, 0}, {0, 1}, {0, 0, 0, 0}} {
		checkSingleton(t, impl.Model{Domains: domains}, false)
	}
}

func TestPromise84BoundsConsistencyKeepsSupportedBounds(t *testing.T) {
	s := newSource(167)
	seen := map[bool]int{}
	for range 3000 {
		m := s.patchy()
		if s.IntN(3) == 0 {
			m = s.model()
		}
		domains, stronger := impl.BoundsPropagate(m), impl.Propagate(m)
		if !contains(domains, stronger) || !contains(m.Domains, domains) {
			t.Fatalf("BoundsPropagate(%+v) = %v, but Propagate = %v", m, domains, stronger)
		}
		if domains[0] == 0 {
			continue
		}
		for _, c := range m.Constraints {
			for v, d := range impl.Filter(c, domains) {
				values := valuesOf(domains[v])
				if d>>values[0]&1 == 0 || d>>values[len(values)-1]&1 == 0 {
					t.Fatalf("BoundsPropagate(%+v) = %v, but %+v filters domain %d to %d", m, domains, c, v, d)
				}
			}
		}
		seen[slices.Equal(domains, stronger)]++
	}
	if seen[true] < 100 || seen[false] < 100 {
		t.Errorf("bounds consistency was weaker %d times, and as strong %d times", seen[false], seen[true])
	}
}

func TestBoundsPropagateByItsDefinition(t *testing.T) {
	s := newSource(168)
	empty, between := 0, 0
	for range 2000 {
		m := s.patchy()
		if s.IntN(3) == 0 {
			m = s.someModel()
		}
		want := boundedOf(m)
		checkBounded(t, m, want...)
		if want[0] == 0 {
			empty++
		} else if !slices.Equal(want, m.Domains) && !slices.Equal(want, impl.Propagate(m)) {
			between++
		}
	}
	if empty < 100 || between < 50 {
		t.Errorf("the domains became empty %d times, and were between the others %d times", empty, between)
	}
}

func TestBoundsConsistency(t *testing.T) {
	different := pairwise(2, 63)
	// Values at the ends are removed, and those in the middle are kept.
	checkBounded(t, withDomains(different, []int{7, 1}), 6, 1)
	checkBounded(t, withDomains(different, []int{7, 2}), 7, 2)
	checkBounded(t, withDomains(different, []int{7, 4}), 3, 4)
	checkBounded(t, withDomains(different, []int{5, 4}), 1, 4)
	checkBounded(t, withDomains(different, []int{5, 2}), 5, 2)
	// Several values at both ends, with a value in between that has no support either.
	ends := impl.Model{Domains: []int{63}, Constraints: []impl.Constraint{table([]int{0}, []int{2}, []int{4})}}
	checkBounded(t, ends, 28)
	checkBounded(t, withDomains(ends, []int{59}), 16)
	checkBounded(t, withDomains(ends, []int{47}), 4)
	checkBounded(t, withDomains(ends, []int{43}), 0)
	// A value in the middle is removed as soon as it is at the end.
	more := withDomains(different, []int{7, 2})
	more.Constraints = append(slices.Clone(more.Constraints), impl.Constraint{Kind: impl.Linear, Vars: []int{0}, Args: []int{-1}, Bound: -1})
	checkBounded(t, more, 4, 2)
	slices.Reverse(more.Constraints)
	checkBounded(t, more, 4, 2)
	// The same by two variables in turns: both have to be odd, and different by 1.
	odds := [][]int{{1}, {3}, {5}}
	turns := impl.Model{Domains: []int{63, 63}, Constraints: []impl.Constraint{
		table([]int{0}, odds...), table([]int{1}, odds...), {Kind: impl.Element, Vars: []int{0, 1}, Args: []int{1, 2, 3, 4, 5}},
	}}
	checkBounded(t, turns, 0, 0)
	turns.Constraints[2].Args = []int{0, 1, 2, 3, 4, 4}
	checkBounded(t, turns, 14, 14)
}

func TestBoundsConsistencyFailsForAllDomains(t *testing.T) {
	checkBounded(t, impl.Model{Domains: []int{63, 5}}, 63, 5)
	for _, domains := range [][]int{{0}, {63, 0}, {0, 1, 2, 4}} {
		checkBounded(t, impl.Model{Domains: domains}, make([]int, len(domains))...)
	}
	checkBounded(t, withDomains(pairwise(2, 1), []int{1, 1, 63}), 0, 0, 0)
	checkBounded(t, impl.Model{Domains: []int{63, 42}, Constraints: []impl.Constraint{never()}}, 0, 0)
	// Weaker than the others: bounds are consistent although propagation or shaving fails.
	checkBounded(t, pairwise(3, 3), 3, 3, 3)
	holes := impl.Model{Domains: []int{33, 63}, Constraints: []impl.Constraint{
		table([]int{0, 1}, []int{0, 0}, []int{5, 5}, []int{0, 5}, []int{5, 0}), table([]int{1}, []int{0}, []int{3}, []int{5}),
	}}
	checkBounded(t, holes, 33, 63)
	checkSizes(t, holes, 8, 8, 4, 4, 4)
}

func TestPromise85StrongerConsistencyLeavesFewerValues(t *testing.T) {
	s := newSource(169)
	var fewer [4]int
	for range 900 {
		m := s.patchy()
		if s.IntN(4) == 0 {
			m = s.someModel()
		}
		sizes := impl.ConsistencySizes(m)
		checkSizes(t, m, sizeOf(m.Domains), sizeOf(impl.BoundsPropagate(m)), sizeOf(impl.Propagate(m)), sizeOf(impl.Shave(m)),
			sizeOf(impl.Backbone(m)))
		for i := range fewer {
			if len(sizes) != 5 || sizes[i] < sizes[i+1] {
				t.Fatalf("ConsistencySizes(%+v) = %v", m, sizes)
			}
			if sizes[4] > 0 && sizes[i] > sizes[i+1] {
				fewer[i]++
			}
		}
	}
	if slices.Min(fewer[:]) < 30 {
		t.Errorf("the numbers decreased only %v times", fewer)
	}
}

func TestConsistencySizesByTheirDefinition(t *testing.T) {
	s := newSource(170)
	for range 150 {
		m := s.patchy()
		checkSizes(t, m, sizeOf(m.Domains), sizeOf(boundedOf(m)), sizeOf(propagated(m)), sizeOf(shavedOf(m)), sizeOf(backboneOf(m)))
	}
}

func TestConsistencySizes(t *testing.T) {
	checkSizes(t, impl.Model{Domains: []int{63}}, 6, 6, 6, 6, 6)
	checkSizes(t, impl.Model{Domains: []int{63, 21, 1, 6}}, 12, 12, 12, 12, 12)
	checkSizes(t, pairwise(3, 7), 9, 9, 9, 9, 9)
	// Only the numbers behind the consistency that sees that there is no solution are 0.
	checkSizes(t, pairwise(4, 7), 12, 12, 12, 12, 0)
	checkSizes(t, pairwise(3, 3), 6, 6, 6, 0, 0)
	checkSizes(t, pairwise(2, 1), 2, 0, 0, 0, 0)
	checkSizes(t, impl.Model{Domains: []int{63, 0}}, 6, 0, 0, 0, 0)
	checkSizes(t, impl.Model{Domains: []int{0}}, 0, 0, 0, 0, 0)
	checkSizes(t, layered(), 6, 6, 6, 4, 4)
}

func TestPromise86ShavingImprovesTheLowerBound(t *testing.T) {
	s := newSource(171)
	better, failed := 0, 0
	for range 600 {
		m := s.patchy()
		obj := s.objective(len(m.Domains))
		bound, ok := impl.ShavedBound(m, obj)
		x, solved := impl.Minimize(m, obj)
		if !ok {
			failed++
			if solved || len(solutionsOf(m)) > 0 {
				t.Fatalf("ShavedBound(%+v, %v) fails, but there is a solution", m, obj)
			}
			continue
		}
		weaker, _ := impl.LowerBound(m, obj)
		if bound < weaker || solved && bound > valueAt(obj, x) {
			t.Fatalf("ShavedBound(%+v, %v) = %d, LowerBound = %d, and Minimize = %v", m, obj, bound, weaker, x)
		}
		checkShavedBound(t, m, obj, lowest(shavedOf(m), obj))
		if bound > weaker {
			better++
		}
	}
	if better < 30 || failed < 50 {
		t.Errorf("the bound was better %d times, and failed %d times", better, failed)
	}
}

func TestShavedBounds(t *testing.T) {
	m := layered()
	checkShavedBound(t, m, []int{1, 1, 1}, 2)
	checkShavedBound(t, m, []int{9, 9, -9}, 9)
	checkShavedBound(t, m, []int{0, -2, 0}, -2)
	checkBound(t, m, []int{9, 9, -9}, -9, true)
	checkShavedBound(t, impl.Model{Domains: []int{60, 7}}, []int{3, -4}, -2)
	// The bound is 0 with success, too.
	checkShavedBound(t, impl.Model{Domains: []int{63}}, []int{5}, 0)
	checkNoShavedBound(t, pairwise(3, 3), []int{1, 1, 1})
	checkBound(t, pairwise(3, 3), []int{1, 1, 1}, 0, true)
	checkNoShavedBound(t, impl.Model{Domains: []int{63, 0}}, []int{1, 1})
	// It fails only where shaving does, not wherever there is no solution.
	checkShavedBound(t, pairwise(4, 14), []int{1, 1, 1, 1}, 4)
}

func TestProbingRejectsInvalidModels(t *testing.T) {
	for _, m := range invalidModels() {
		n := len(m.Domains)
		for _, v := range []int{-1, 0, n - 1, n} {
			checkProbe(t, m, v, 0)
			checkProbe(t, m, v, 5)
		}
		checkShave(t, m)
		checkSingleton(t, m, false)
		checkBounded(t, m)
		checkSizes(t, m)
		checkNoShavedBound(t, m, make([]int, n))
		checkNoShavedBound(t, m, slices.Repeat([]int{1}, n))
	}
}

func TestProbingRejectsInvalidArguments(t *testing.T) {
	for n := 1; n <= 4; n++ {
		for _, domain := range []int{0, 63} {
			m := impl.Model{Domains: slices.Repeat([]int{domain}, n)}
			for _, r := range invalidRemovals(n) {
				checkProbe(t, m, r.Var, r.Value)
			}
			for _, v := range []int{smallestInt, -1, n, n + 1, 4, 64, 1 << 32, largestInt} {
				checkProbe(t, m, v, 0)
			}
			for _, a := range []int{smallestInt, -64, -1, 6, 7, 63, 64, 1 << 32, largestInt} {
				checkProbe(t, m, n-1, a)
			}
			for _, obj := range invalidObjectives(n) {
				checkNoShavedBound(t, m, obj)
			}
			checkNoShavedBound(t, m, nil)
		}
		checkShavedBound(t, impl.Model{Domains: slices.Repeat([]int{32}, n)}, slices.Repeat([]int{9}, n), 45*n)
		checkShavedBound(t, impl.Model{Domains: slices.Repeat([]int{33}, n)}, slices.Repeat([]int{-9}, n), -45*n)
	}
}

// probedLists calls all functions of the chapter that return lists.
func probedLists(m impl.Model, v int, a int) [][]int {
	return lists(impl.Probe(m, v, a), impl.Shave(m), impl.BoundsPropagate(m), impl.ConsistencySizes(m))
}

func TestProbingLeavesItsArgumentsAlone(t *testing.T) {
	s := newSource(172)
	for range 300 {
		m := roomy(s.patchy())
		if s.IntN(3) == 0 {
			m = roomy(s.someModel())
		}
		v, a, obj := s.IntN(len(m.Domains)), s.IntN(6), s.objective(len(m.Domains))
		before, objBefore := snapshot(m), slices.Clone(obj)
		want := spoil(t, probedLists(m, v, a))
		impl.IsSingletonConsistent(m)
		impl.ShavedBound(m, obj)
		if !sameModel(before, snapshot(m)) || !slices.Equal(obj, objBefore) {
			t.Fatal("an argument was changed, or shares memory with a result")
		}
		if !sameLists(probedLists(m, v, a), want) {
			t.Fatal("a result is kept from call to call")
		}
	}
}

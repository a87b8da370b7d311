package tests

import (
	"slices"
	"testing"

	"loop.example/constraintsolver/impl"
)

// explained is the document's definition of reasons that explain r, by trying all assignments.
func explained(c impl.Constraint, n int, reasons []impl.Removal, r impl.Removal) bool {
	return !slices.Contains(valuesOf(filtered(c, without(n, reasons))[r.Var]), r.Value)
}

// without returns n domains with all values except the removed ones.
func without(n int, removals []impl.Removal) []int {
	domains := make([]int, n)
	for i := range domains {
		for v := 0; v <= 5; v++ {
			if !slices.Contains(removals, impl.Removal{Var: i, Value: v}) {
				domains[i] |= 1 << v
			}
		}
	}
	return domains
}

// lacking lists the removals of all values that the domains lack.
func lacking(domains []int) []impl.Removal {
	var list []impl.Removal
	for _, r := range allRemovals(len(domains)) {
		if !slices.Contains(valuesOf(domains[r.Var]), r.Value) {
			list = append(list, r)
		}
	}
	return list
}

// allRemovals lists the valid removals for n variables, by variable and value.
func allRemovals(n int) []impl.Removal {
	var list []impl.Removal
	for i := range n {
		for v := 0; v <= 5; v++ {
			list = append(list, impl.Removal{Var: i, Value: v})
		}
	}
	return list
}

// removalsOf lists the removals of all values from one variable.
func removalsOf(v int) []impl.Removal {
	return allRemovals(v + 1)[6*v:]
}

// leaving returns the list without one removal.
func leaving(list []impl.Removal, r impl.Removal) []impl.Removal {
	return slices.DeleteFunc(slices.Clone(list), func(other impl.Removal) bool { return other == r })
}

// explanation is Explain by its definition.
func explanation(c impl.Constraint, domains []int, r impl.Removal) ([]impl.Removal, bool) {
	start := leaving(lacking(domains), r)
	if !explained(c, len(domains), start, r) {
		return nil, false
	}
	left := start
	for _, reason := range start {
		if rest := leaving(left, reason); explained(c, len(domains), rest, r) {
			left = rest
		}
	}
	return left, true
}

// invalidRemovals lists what is no removal for n variables.
func invalidRemovals(n int) []impl.Removal {
	return []impl.Removal{
		{Var: -1}, {Var: n}, {Var: n + 1}, {Var: 1 << 32}, {Var: smallestInt}, {Var: largestInt},
		{Value: -1}, {Value: 6}, {Value: 7}, {Value: 63}, {Value: 1 << 32}, {Value: smallestInt}, {Value: largestInt},
		{Var: -1, Value: -1}, {Var: n, Value: 6}, {Var: n - 1, Value: 6}, {Var: n - 1, Value: -1},
	}
}

// removal returns a valid removal for n variables.
func (s source) removal(n int) impl.Removal {
	return impl.Removal{Var: s.IntN(n), Value: s.between(0, 5)}
}

// removals returns valid removals for n variables, which may be repeated.
func (s source) removals(n int, count int) []impl.Removal {
	list := make([]impl.Removal, count)
	for i := range list {
		list[i] = s.removal(n)
	}
	return list
}

// fewValues returns domains of n variables that lack many values, so that there is much to explain.
func (s source) fewValues(n int) []int {
	domains := s.someDomains(n)
	for i := range domains {
		domains[i] &= s.between(0, 63)
		if domains[i] == 0 && s.IntN(4) > 0 {
			domains[i] = 1 << s.between(0, 5)
		}
	}
	return domains
}

// checkExplain reports a removal that is not explained as wanted.
func checkExplain(t *testing.T, c impl.Constraint, domains []int, r impl.Removal, want ...impl.Removal) {
	t.Helper()
	if got, ok := impl.Explain(c, domains, r); !ok || !slices.Equal(got, want) {
		t.Errorf("Explain(%+v, %v, %v) = %v, %v, want %v", c, domains, r, got, ok, want)
	}
}

// checkNoExplanation reports a removal that is explained although it should not be.
func checkNoExplanation(t *testing.T, c impl.Constraint, domains []int, r impl.Removal) {
	t.Helper()
	if got, ok := impl.Explain(c, domains, r); ok || len(got) != 0 {
		t.Errorf("Explain(%+v, %v, %v) = %v, %v", c, domains, r, got, ok)
	}
}

// checkReasons reports reasons that IsExplanation judges wrongly.
func checkReasons(t *testing.T, c impl.Constraint, n int, reasons []impl.Removal, r impl.Removal, want bool) {
	t.Helper()
	if got := impl.IsExplanation(c, n, reasons, r); got != want {
		t.Errorf("IsExplanation(%+v, %d, %v, %v) = %v", c, n, reasons, r, got)
	}
}

func TestExplainByItsDefinition(t *testing.T) {
	s := newSource(33)
	seen := map[bool]int{}
	for range 700 {
		n := s.between(1, 4)
		c, domains, r := s.constraint(n), s.fewValues(n), s.removal(n)
		want, wantOK := explanation(c, domains, r)
		seen[wantOK]++
		if wantOK {
			checkExplain(t, c, domains, r, want...)
		} else {
			checkNoExplanation(t, c, domains, r)
		}
	}
	if seen[true] < 200 || seen[false] < 200 {
		t.Errorf("the removals were not balanced: %v", seen)
	}
}

func TestPromise25ExplanationsAreCorrectAndMinimal(t *testing.T) {
	s := newSource(34)
	lengths := map[int]int{}
	for range 8000 {
		n := s.between(2, 4)
		c, domains, r := s.constraint(n), s.fewValues(n), s.removal(n)
		reasons, ok := impl.Explain(c, domains, r)
		if !ok {
			continue
		}
		lengths[min(len(reasons), 6)]++
		if !impl.IsExplanation(c, n, reasons, r) || impl.DomainHas(impl.Filter(c, without(n, reasons))[r.Var], r.Value) {
			t.Fatalf("Explain(%+v, %v, %v) = %v does not explain it", c, domains, r, reasons)
		}
		for i, reason := range reasons {
			if impl.DomainHas(domains[reason.Var], reason.Value) || reason == r {
				t.Fatalf("Explain(%+v, %v, %v) = %v has a reason that it may not have", c, domains, r, reasons)
			}
			if impl.IsExplanation(c, n, slices.Delete(slices.Clone(reasons), i, i+1), r) {
				t.Fatalf("Explain(%+v, %v, %v) = %v does not need %v", c, domains, r, reasons, reason)
			}
			// The other values of the variable have nothing to do with the support of the removed one.
			if reason.Var == r.Var {
				t.Fatalf("Explain(%+v, %v, %v) = %v", c, domains, r, reasons)
			}
		}
	}
	for length := range 7 {
		if lengths[length] < 20 {
			t.Errorf("only %d explanations had the length %d", lengths[length], length)
		}
	}
}

func TestPromise26EveryRemovalByFilterCanBeExplained(t *testing.T) {
	s := newSource(35)
	removed := map[int]int{}
	for range 2500 {
		n := s.between(1, 4)
		c, domains := s.constraint(n), s.fewValues(n)
		filtered := impl.Filter(c, domains)
		for _, r := range allRemovals(n) {
			_, ok := impl.Explain(c, domains, r)
			switch {
			case impl.DomainHas(filtered[r.Var], r.Value):
				if ok {
					t.Fatalf("Explain(%+v, %v, %v) succeeds, but the value stays", c, domains, r)
				}
			case impl.DomainHas(domains[r.Var], r.Value):
				removed[c.Kind]++
				if !ok {
					t.Fatalf("Explain(%+v, %v, %v) fails, but the value is removed", c, domains, r)
				}
			}
		}
	}
	for kind := 1; kind <= 9; kind++ {
		if removed[kind] < 50 {
			t.Errorf("kind %d removed only %d values", kind, removed[kind])
		}
	}
}

func TestPromise27MoreReasonsExplainAsMuch(t *testing.T) {
	s := newSource(36)
	checked := 0
	for range 4000 {
		n := s.between(1, 4)
		c, r := s.constraint(n), s.removal(n)
		reasons := s.removals(n, s.between(0, 23))
		if !impl.IsExplanation(c, n, reasons, r) {
			continue
		}
		checked++
		for _, further := range append(s.removals(n, 3), r) {
			checkReasons(t, c, n, append(slices.Clone(reasons), further), r, true)
			checkReasons(t, c, n, append([]impl.Removal{further}, reasons...), r, true)
		}
	}
	if checked < 500 {
		t.Errorf("only %d explanations were tested", checked)
	}
}

func TestIsExplanationByItsDefinition(t *testing.T) {
	s := newSource(37)
	seen := map[bool]int{}
	for range 3000 {
		n := s.between(1, 4)
		c, r := s.constraint(n), s.removal(n)
		reasons := s.removals(n, s.between(0, 24))
		want := explained(c, n, reasons, r)
		seen[want]++
		checkReasons(t, c, n, reasons, r, want)
		// Neither the order nor repetitions matter.
		slices.Reverse(reasons)
		checkReasons(t, c, n, reasons, r, want)
		if len(reasons) > 0 && len(reasons) < 24 {
			checkReasons(t, c, n, append(reasons, reasons[0]), r, want)
		}
	}
	if seen[true] < 500 || seen[false] < 500 {
		t.Errorf("the reasons were not balanced: %v", seen)
	}
}

func TestReasonsAboutTheRemovedValueItself(t *testing.T) {
	different := impl.Constraint{Kind: impl.AllDifferent, Vars: []int{0, 1}}
	r := impl.Removal{Var: 1, Value: 2}
	why := leaving(removalsOf(0), impl.Removal{Var: 0, Value: 2})
	// It makes no difference whether the domains still have the value: the reason is never the removal itself.
	checkExplain(t, different, []int{4, 63}, r, why...)
	checkExplain(t, different, []int{4, 63 &^ 4}, r, why...)
	checkExplain(t, different, []int{4, 0}, r, why...)
	checkExplain(t, different, []int{4, 1, 0}, r, why...)
	// The value is missing, but not because of the constraint.
	checkNoExplanation(t, different, []int{63, 63 &^ 4}, r)
	checkNoExplanation(t, different, []int{6, 0}, r)
	checkNoExplanation(t, different, []int{8, 63 &^ 4}, r)
	// As a given reason it is enough, alone and together with others.
	checkReasons(t, different, 2, []impl.Removal{r}, r, true)
	checkReasons(t, different, 2, []impl.Removal{{Var: 0, Value: 1}, r, r}, r, true)
	checkReasons(t, different, 2, []impl.Removal{{Var: 1, Value: 3}}, r, false)
	checkReasons(t, different, 2, []impl.Removal{{Var: 0, Value: 2}}, r, false)
	checkReasons(t, different, 2, leaving(removalsOf(1), r), r, false)
	checkReasons(t, different, 2, removalsOf(1), r, true)
	checkReasons(t, different, 2, nil, r, false)
}

func TestRemovalsFromVariablesOutsideTheConstraint(t *testing.T) {
	different := impl.Constraint{Kind: impl.AllDifferent, Vars: []int{0, 2}}
	never := impl.Constraint{Kind: impl.Linear, Vars: []int{0}, Args: []int{0}, Bound: -1}
	for _, r := range removalsOf(1) {
		// The constraint removes nothing from such a variable, not even if it cannot be satisfied.
		for _, domains := range [][]int{{63, 63, 63}, {1, 63, 1}, {0, 63, 0}, {0, 0, 0}, {1, 63 &^ (1 << r.Value), 1}} {
			checkNoExplanation(t, different, domains, r)
			checkNoExplanation(t, never, domains, r)
		}
		for _, c := range []impl.Constraint{different, never} {
			checkReasons(t, c, 3, nil, r, false)
			checkReasons(t, c, 3, append(removalsOf(0), removalsOf(2)...), r, false)
			checkReasons(t, c, 3, leaving(removalsOf(1), r), r, false)
			checkReasons(t, c, 3, []impl.Removal{r}, r, true)
		}
	}
	// Nor do its values matter to the variables of the constraint.
	checkReasons(t, different, 3, removalsOf(1), impl.Removal{Var: 0}, false)
	checkNoExplanation(t, different, []int{63, 0, 63}, impl.Removal{Var: 0})
	checkExplain(t, different, []int{63, 0, 8}, impl.Removal{Var: 0, Value: 3}, leaving(removalsOf(2), impl.Removal{Var: 2, Value: 3})...)
}

func TestExplanationsWithoutReasons(t *testing.T) {
	// The constraint alone removes these values.
	small := impl.Constraint{Kind: impl.Linear, Vars: []int{1}, Args: []int{2}, Bound: 5}
	never := impl.Constraint{Kind: impl.Linear, Vars: []int{0, 1}, Args: []int{0, 0}, Bound: -1}
	for _, domains := range [][]int{{63, 63}, {5, 7}, {0, 0}, {63, 1}} {
		for _, r := range removalsOf(1) {
			checkExplain(t, never, domains, r)
			if r.Value > 2 {
				checkExplain(t, small, domains, r)
			} else {
				checkNoExplanation(t, small, domains, r)
			}
		}
	}
	checkReasons(t, small, 2, nil, impl.Removal{Var: 1, Value: 3}, true)
	checkReasons(t, small, 2, []impl.Removal{}, impl.Removal{Var: 1, Value: 2}, false)
}

func TestReasonsAreDroppedInOrder(t *testing.T) {
	// Variable 2 can be 5 only if the others sum up to at most 2. Either of two sets of three reasons is enough; the one
	// without the early removals remains.
	sum := impl.Constraint{Kind: impl.Linear, Vars: []int{0, 1, 2}, Args: []int{1, 1, 1}, Bound: 7}
	r := impl.Removal{Var: 2, Value: 5}
	checkExplain(t, sum, []int{60, 60, 63}, r, impl.Removal{Var: 0}, impl.Removal{Var: 1}, impl.Removal{Var: 1, Value: 1})
	checkReasons(t, sum, 3, []impl.Removal{{Var: 0}, {Var: 0, Value: 1}, {Var: 1}}, r, true)
	// The order is that of the variables, not that in the constraint.
	turned := impl.Constraint{Kind: impl.Linear, Vars: []int{2, 1, 0}, Args: []int{1, 1, 1}, Bound: 7}
	checkExplain(t, turned, []int{60, 60, 63}, r, impl.Removal{Var: 0}, impl.Removal{Var: 1}, impl.Removal{Var: 1, Value: 1})
	// Each of the variables 0 and 1 alone is enough, if all its reasons are kept.
	checkExplain(t, sum, []int{56, 56, 63}, r, impl.Removal{Var: 1}, impl.Removal{Var: 1, Value: 1}, impl.Removal{Var: 1, Value: 2})
	checkExplain(t, sum, []int{56, 62, 63}, r, impl.Removal{Var: 0}, impl.Removal{Var: 0, Value: 1}, impl.Removal{Var: 1})
	// An empty domain is a reason as well; of two, the last one.
	different := impl.Constraint{Kind: impl.AllDifferent, Vars: []int{0, 1, 2}}
	checkExplain(t, different, []int{0, 63, 63}, impl.Removal{Var: 1}, removalsOf(0)[1:]...)
	checkExplain(t, different, []int{63, 0, 0}, impl.Removal{Var: 0, Value: 5}, removalsOf(2)[:5]...)
}

func TestLargestExplanations(t *testing.T) {
	if impl.MaxRemovals != 24 {
		t.Errorf("MaxRemovals = %d", impl.MaxRemovals)
	}
	all := allRemovals(4)
	different := impl.Constraint{Kind: impl.AllDifferent, Vars: []int{0, 1, 2, 3}}
	r := impl.Removal{Var: 3, Value: 5}
	checkReasons(t, different, 4, all, r, true)
	checkReasons(t, different, 4, all[:23], r, true)
	checkReasons(t, different, 4, append(slices.Clone(all), r), r, false)
	checkReasons(t, different, 4, append(slices.Clone(all), all...), r, false)
	checkReasons(t, different, 4, slices.Repeat([]impl.Removal{r}, 24), r, true)
	checkReasons(t, different, 4, slices.Repeat([]impl.Removal{r}, 25), r, false)
	checkReasons(t, different, 4, slices.Repeat([]impl.Removal{r}, 1000), r, false)
	// The reasons are all that lets the others be 0, 1 and 2 only, in any order.
	why := slices.Concat(removalsOf(0)[3:], removalsOf(1)[3:], removalsOf(2)[3:])
	for v := range 3 {
		checkExplain(t, different, []int{7, 7, 7, 63}, impl.Removal{Var: 3, Value: v}, why...)
	}
	checkNoExplanation(t, different, []int{7, 7, 7, 63}, impl.Removal{Var: 3, Value: 3})
	checkExplain(t, different, []int{0, 0, 0, 0}, r, leaving(removalsOf(2), impl.Removal{Var: 2, Value: 5})...)
	checkReasons(t, impl.Constraint{Kind: impl.AllDifferent, Vars: []int{0}}, 1, removalsOf(0), impl.Removal{}, true)
}

func TestExplanationsRejectInvalidRemovals(t *testing.T) {
	for n := 1; n <= 4; n++ {
		never := impl.Constraint{Kind: impl.Linear, Vars: []int{0}, Args: []int{0}, Bound: -1}
		for _, r := range invalidRemovals(n) {
			checkNoExplanation(t, never, slices.Repeat([]int{63}, n), r)
			checkNoExplanation(t, never, make([]int, n), r)
			checkReasons(t, never, n, nil, r, false)
			checkReasons(t, never, n, []impl.Removal{r}, r, false)
			checkReasons(t, never, n, []impl.Removal{r}, impl.Removal{}, false)
			checkReasons(t, never, n, []impl.Removal{{}, r}, impl.Removal{}, false)
			checkReasons(t, never, n, []impl.Removal{r, {}}, impl.Removal{}, false)
		}
		checkReasons(t, never, n, []impl.Removal{{Var: n - 1, Value: 5}}, impl.Removal{Var: 0, Value: 5}, true)
	}
}

func TestExplanationsRejectInvalidConstraintsAndDomains(t *testing.T) {
	never := impl.Constraint{Kind: impl.Linear, Vars: []int{0}, Args: []int{0}, Bound: -1}
	for _, domains := range invalidDomainLists() {
		checkNoExplanation(t, never, domains, impl.Removal{})
	}
	for _, n := range invalidNumbers() {
		checkReasons(t, never, n, nil, impl.Removal{}, false)
		checkReasons(t, never, n, []impl.Removal{{}}, impl.Removal{}, false)
	}
	for _, c := range invalidConstraints() {
		for _, r := range allRemovals(2) {
			for _, domains := range [][]int{{63, 63}, {0, 0}, {1, 2}} {
				checkNoExplanation(t, c, domains, r)
			}
			checkReasons(t, c, 2, nil, r, false)
			checkReasons(t, c, 2, []impl.Removal{r}, r, false)
		}
	}
}

func TestExplanationsLeaveTheirArgumentsAlone(t *testing.T) {
	s := newSource(38)
	for range 500 {
		n := s.between(1, 4)
		m := roomy(impl.Model{Domains: s.list(n, 0, 63), Constraints: []impl.Constraint{s.constraint(n)}})
		c, r := m.Constraints[0], s.removal(n)
		reasons := s.removals(n, 20)
		before, beforeReasons := snapshot(m), slices.Clone(reasons)
		first, ok := impl.Explain(c, m.Domains, r)
		want := slices.Clone(first)
		for i := range first[:cap(first)] {
			first[:cap(first)][i] = impl.Removal{Var: 99, Value: 99}
		}
		if again, okAgain := impl.Explain(c, m.Domains, r); ok != okAgain || !slices.Equal(again, want) {
			t.Fatal("a result is kept from call to call")
		}
		impl.IsExplanation(c, n, reasons[:10], r)
		if !sameModel(before, snapshot(m)) || !slices.Equal(reasons, beforeReasons) {
			t.Fatal("an argument was changed, or shares memory with a result")
		}
	}
}

package tests

import (
	"slices"
	"testing"

	"loop.example/constraintsolver/impl"
)

// formula is a quantified formula over given solutions of the model.
type formula struct {
	domains   []int
	forall    []bool
	solutions map[[4]int]bool
}

// formulaOf returns the formula that some of the assignments satisfy.
func formulaOf(m impl.Model, forall []bool, list [][]int) formula {
	f := formula{domains: m.Domains, forall: forall, solutions: map[[4]int]bool{}}
	for _, x := range list {
		f.solutions[[4]int(append(slices.Clone(x), 0, 0, 0, 0))] = true
	}
	return f
}

// isTrueAfter reports whether the rest of the formula is true after the first values, by its definition.
func (f formula) isTrueAfter(x ...int) bool {
	if len(x) == len(f.domains) {
		return f.solutions[[4]int(append(slices.Clone(x), 0, 0, 0, 0))]
	}
	isForAll := f.forall[len(x)]
	for _, a := range valuesOf(f.domains[len(x)]) {
		if f.isTrueAfter(append(slices.Clone(x), a)...) != isForAll {
			return !isForAll
		}
	}
	return isForAll
}

// winningAfter returns the values of the next variable for which the rest of the formula is true.
func (f formula) winningAfter(x ...int) []int {
	return slices.DeleteFunc(valuesOf(f.domains[len(x)]), func(a int) bool { return !f.isTrueAfter(append(slices.Clone(x), a)...) })
}

// playsAfter lists the plays of a strategy after the first values. It takes one of the winning values of a variable with
// "there is".
func (f formula) playsAfter(pick func(values []int) int, x ...int) [][]int {
	if len(x) == len(f.domains) {
		return lists(x)
	}
	values := f.winningAfter(x...)
	if !f.forall[len(x)] {
		values = []int{pick(values)}
	}
	var list [][]int
	for _, a := range values {
		list = append(list, f.playsAfter(pick, append(slices.Clone(x), a)...)...)
	}
	return list
}

// strategyOf is Strategy by its definition.
func strategyOf(m impl.Model, forall []bool) [][]int {
	f := formulaOf(m, forall, solutionsOf(m))
	if slices.Contains(m.Domains, 0) || !f.isTrueAfter() {
		return nil
	}
	return f.playsAfter(slices.Min[[]int])
}

// isStrategy is CheckStrategy by its definition.
func isStrategy(m impl.Model, forall []bool, list [][]int) bool {
	if slices.Contains(m.Domains, 0) || len(list) == 0 {
		return false
	}
	for i, x := range list {
		if len(x) != len(m.Domains) || !inDomains(m, x) || len(brokenBy(m, x)) > 0 || i > 0 && slices.Compare(list[i-1], x) >= 0 {
			return false
		}
	}
	for _, x := range list {
		for v, d := range m.Domains {
			next := 0
			for _, y := range list {
				if slices.Equal(y[:v], x[:v]) {
					next |= 1 << y[v]
				}
			}
			if forall[v] && next != d || !forall[v] && len(valuesOf(next)) > 1 {
				return false
			}
		}
	}
	return true
}

// minimaxOf is Minimax by its definition: the smallest bound on the objective that the player can keep.
func minimaxOf(m impl.Model, obj []int, forall []bool) (int, bool) {
	list := solutionsOf(m)
	slices.SortStableFunc(list, func(x []int, y []int) int { return valueAt(obj, x) - valueAt(obj, y) })
	for i, x := range list {
		isLast := i == len(list)-1 || valueAt(obj, list[i+1]) > valueAt(obj, x)
		if isLast && formulaOf(m, forall, list[:i+1]).isTrueAfter() {
			return valueAt(obj, x), true
		}
	}
	return 0, false
}

// robustOf is RobustAssignment by its definition. It returns nil if there is none.
func robustOf(m impl.Model, k int) []int {
	all, list := solutionsOf(impl.Model{Domains: m.Domains}), solutionsOf(m)
	for _, x := range solutionsOf(impl.Model{Domains: append(slices.Clone(m.Domains[:k]), 1)}) {
		x = x[:k]
		begins := func(y []int) bool { return slices.Equal(y[:k], x) }
		if countOf(all, begins) == countOf(list, begins) {
			return x
		}
	}
	return nil
}

// countOf returns how many of the assignments are wanted.
func countOf(list [][]int, isWanted func(x []int) bool) int {
	n := 0
	for _, x := range list {
		if isWanted(x) {
			n++
		}
	}
	return n
}

// lastFrom returns n quantifiers, "there is" for the first k variables.
func lastFrom(n int, k int) []bool {
	forall := make([]bool, n)
	for i := k; i < n; i++ {
		forall[i] = true
	}
	return forall
}

// fewOf returns a domain with at most so many values.
func (s source) fewOf(most int) int {
	d := 0
	for range s.between(1, most) {
		d |= 1 << s.IntN(6)
	}
	return d
}

// loose returns a constraint for n variables that many assignments satisfy.
func (s source) loose(n int) impl.Constraint {
	vars := s.Perm(n)[:s.between(1, n)]
	switch s.IntN(4) {
	case 0:
		return impl.Constraint{Kind: impl.Linear, Vars: vars, Args: s.list(len(vars), -3, 3), Bound: s.between(0, 15)}
	case 1:
		return impl.Constraint{Kind: impl.Count, Vars: vars, Args: s.list(1, 0, 5), Bound: s.between(0, 1)}
	case 2:
		if n > 1 {
			return impl.Constraint{Kind: impl.NotEqual, Vars: s.Perm(n)[:2], Args: s.list(1, -3, 3)}
		}
	}
	return s.parity(vars)
}

// quantified returns a formula. Many of them are true.
func (s source) quantified() (impl.Model, []bool) {
	n := s.between(1, 4)
	var m impl.Model
	forall := make([]bool, n)
	for i := range n {
		forall[i] = s.IntN(5) < 2
		m.Domains = append(m.Domains, s.fewOf(4))
	}
	for range s.between(0, 3) {
		m.Constraints = append(m.Constraints, s.loose(n))
	}
	if s.IntN(6) == 0 {
		m.Constraints = append(m.Constraints, s.constraint(n))
	}
	if s.IntN(12) == 0 {
		m.Domains[s.IntN(n)] = 0
	}
	return m, forall
}

// winnable returns a true formula without empty domains.
func (s source) winnable() (impl.Model, []bool) {
	for {
		m, forall := s.quantified()
		if !slices.Contains(m.Domains, 0) && formulaOf(m, forall, solutionsOf(m)).isTrueAfter() {
			return m, forall
		}
	}
}

// reply picks one of the values.
func (s source) reply(values []int) int {
	return values[s.IntN(len(values))]
}

// spoilStrategy returns the plays with a change after which they are seldom a strategy.
func (s source) spoilStrategy(m impl.Model, plays [][]int) [][]int {
	list := cloneLists(plays)
	i, j, v := s.IntN(len(list)), s.IntN(len(list)), s.IntN(len(m.Domains))
	switch s.IntN(6) {
	case 0:
		return slices.Delete(list, i, i+1)
	case 1:
		list[i], list[j] = list[j], list[i]
	case 2:
		list[i][v] = s.IntN(6)
	case 3:
		return slices.Insert(list, i, slices.Clone(list[j]))
	case 4:
		// A superfluous play.
		all := solutionsOf(m)
		list = append(list, all[s.IntN(len(all))])
		slices.SortFunc(list, slices.Compare[[]int])
		return slices.CompactFunc(list, slices.Equal[[]int])
	case 5:
		return solutionsOf(m)
	}
	return list
}

// checkTrue reports a formula that IsQuantifiedTrue judges wrongly.
func checkTrue(t *testing.T, m impl.Model, forall []bool, want bool) {
	t.Helper()
	if impl.IsQuantifiedTrue(m, forall) != want {
		t.Errorf("IsQuantifiedTrue(%+v, %v) = %v", m, forall, !want)
	}
}

// checkWinning reports a formula whose WinningValues are not the wanted ones.
func checkWinning(t *testing.T, m impl.Model, forall []bool, want int) {
	t.Helper()
	if got := impl.WinningValues(m, forall); got != want {
		t.Errorf("WinningValues(%+v, %v) = %d, want %d", m, forall, got, want)
	}
}

// checkStrategy reports a formula whose Strategy does not have the wanted plays, or that has one if none are wanted.
func checkStrategy(t *testing.T, m impl.Model, forall []bool, want ...[]int) {
	t.Helper()
	if got, ok := impl.Strategy(m, forall); !sameLists(got, want) || ok != (len(want) > 0) {
		t.Errorf("Strategy(%+v, %v) = %v, %v, want %v", m, forall, got, ok, want)
	}
}

// checkPlays reports a list that CheckStrategy judges wrongly.
func checkPlays(t *testing.T, m impl.Model, forall []bool, list [][]int, want bool) {
	t.Helper()
	if impl.CheckStrategy(m, forall, list) != want {
		t.Errorf("CheckStrategy(%+v, %v, %v) = %v", m, forall, list, !want)
	}
}

// checkMinimax reports a game that does not have the wanted value.
func checkMinimax(t *testing.T, m impl.Model, obj []int, forall []bool, want int, wantOK bool) {
	t.Helper()
	if got, ok := impl.Minimax(m, obj, forall); got != want || ok != wantOK {
		t.Errorf("Minimax(%+v, %v, %v) = %d, %v, want %d, %v", m, obj, forall, got, ok, want, wantOK)
	}
}

// checkRobust reports a model that does not have the wanted RobustAssignment of k variables.
func checkRobust(t *testing.T, m impl.Model, k int, want ...int) {
	t.Helper()
	if got, ok := impl.RobustAssignment(m, k); !ok || !slices.Equal(got, want) {
		t.Errorf("RobustAssignment(%+v, %d) = %v, %v, want %v", m, k, got, ok, want)
	}
}

// checkNotRobust reports a model for which RobustAssignment should fail.
func checkNotRobust(t *testing.T, m impl.Model, k int) {
	t.Helper()
	if got, ok := impl.RobustAssignment(m, k); ok || len(got) != 0 {
		t.Errorf("RobustAssignment(%+v, %d) = %v, %v", m, k, got, ok)
	}
}

func TestPromise126QuantifiedFormulasGeneralizeSatisfiability(t *testing.T) {
	s := newSource(240)
	seen := map[[2]bool]int{}
	for i := range 800 {
		m, _ := s.quantified()
		if i%4 == 0 {
			m = s.someModel()
		}
		n := len(m.Domains)
		count := impl.CountSolutions(m)
		all := 1
		for _, d := range m.Domains {
			all *= impl.DomainSize(d)
		}
		checkTrue(t, m, lastFrom(n, n), count > 0)
		checkTrue(t, m, lastFrom(n, 0), count == all)
		seen[[2]bool{count > 0, count == all}]++
	}
	if len(seen) != 4 {
		t.Errorf("the models were not balanced: %v", seen)
	}
	for _, n := range seen {
		if n < 40 {
			t.Errorf("the models were not balanced: %v", seen)
		}
	}
}

func TestIsQuantifiedTrueByItsDefinition(t *testing.T) {
	s := newSource(241)
	seen := map[bool]int{}
	for i := range 1500 {
		m, forall := s.quantified()
		if i%5 == 0 {
			m = s.someModel()
			forall = lastFrom(len(m.Domains), s.IntN(len(m.Domains)))
			s.Shuffle(len(forall), func(i, j int) { forall[i], forall[j] = forall[j], forall[i] })
		}
		want := formulaOf(m, forall, solutionsOf(m)).isTrueAfter()
		checkTrue(t, m, forall, want)
		if slices.Contains(forall, true) && slices.Contains(forall, false) {
			seen[want]++
		}
	}
	if seen[true] < 250 || seen[false] < 250 {
		t.Errorf("the formulas were not balanced: %v", seen)
	}
}

func TestQuantifiedFormulas(t *testing.T) {
	m := pairwise(2, 3)
	checkTrue(t, m, []bool{false, false}, true)
	checkTrue(t, m, []bool{true, false}, true)
	checkTrue(t, m, []bool{false, true}, false)
	checkTrue(t, m, []bool{true, true}, false)
	// Of three different values others are left for the player, but the opponent can choose one of them again.
	checkTrue(t, pairwise(3, 7), []bool{false, false, false}, true)
	checkTrue(t, pairwise(3, 7), []bool{true, false, false}, true)
	checkTrue(t, pairwise(3, 7), []bool{false, true, false}, false)
	checkTrue(t, pairwise(3, 7), []bool{false, false, true}, false)
	checkTrue(t, pairwise(3, 3), []bool{false, false, false}, false)
	// The order of the choices is that of the variables, not the one in a constraint.
	equal := impl.Model{Domains: []int{7, 7}, Constraints: []impl.Constraint{table([]int{1, 0}, []int{0, 0}, []int{1, 1}, []int{2, 2})}}
	checkTrue(t, equal, []bool{true, false}, true)
	checkTrue(t, equal, []bool{false, true}, false)
	equal.Domains = []int{7, 3}
	checkTrue(t, equal, []bool{true, false}, false)
	equal.Domains = []int{3, 7}
	checkTrue(t, equal, []bool{true, false}, true)
	equal.Domains = []int{7, 4}
	checkTrue(t, equal, []bool{false, true}, true)
	// One variable, and no constraints.
	small := impl.Model{Domains: []int{7}, Constraints: []impl.Constraint{{Kind: impl.Linear, Vars: []int{0}, Args: []int{1}, Bound: 1}}}
	checkTrue(t, small, []bool{false}, true)
	checkTrue(t, small, []bool{true}, false)
	for n := 1; n <= 4; n++ {
		for k := range n + 1 {
			checkTrue(t, impl.Model{Domains: slices.Repeat([]int{63}, n)}, lastFrom(n, k), true)
			checkTrue(t, impl.Model{Domains: slices.Repeat([]int{63}, n), Constraints: []impl.Constraint{never()}}, lastFrom(n, k), false)
		}
	}
}

func TestEmptyDomainsInFormulas(t *testing.T) {
	// "For all" is true for an empty domain, whatever the constraints are, and "there is" is false.
	m := impl.Model{Domains: []int{0}, Constraints: []impl.Constraint{never()}}
	checkTrue(t, m, []bool{true}, true)
	checkTrue(t, m, []bool{false}, false)
	for i := range 8 {
		forall := []bool{i&1 > 0, i&2 > 0}
		first, second, both := impl.Model{Domains: []int{0, 7}}, impl.Model{Domains: []int{7, 0}}, impl.Model{Domains: []int{0, 0}}
		if i&4 > 0 {
			constraints := []impl.Constraint{never()}
			first.Constraints, second.Constraints, both.Constraints = constraints, constraints, constraints
		}
		checkTrue(t, first, forall, forall[0])
		checkTrue(t, second, forall, forall[1])
		checkTrue(t, both, forall, forall[0])
		won := 0
		if forall[1] {
			won = 7
		}
		checkWinning(t, first, forall, 0)
		checkWinning(t, second, forall, won)
		checkWinning(t, both, forall, 0)
		for _, m := range []impl.Model{first, second, both} {
			checkStrategy(t, m, forall)
			checkMinimax(t, m, []int{1, 1}, forall, 0, false)
			for _, list := range [][][]int{nil, {}, {nil}, lists([]int{0, 0}), lists([]int{0}), lists([]int{0, 0}, []int{1, 0}, []int{2, 0})} {
				checkPlays(t, m, forall, list, false)
			}
		}
	}
	// A variable before the one with an empty domain needs a value only if it is one with "there is".
	checkTrue(t, impl.Model{Domains: []int{0, 0, 7}}, []bool{false, true, false}, false)
	checkTrue(t, impl.Model{Domains: []int{1, 0, 7}}, []bool{false, true, false}, true)
	checkTrue(t, impl.Model{Domains: []int{0, 0, 7}}, []bool{true, false, false}, true)
	checkTrue(t, impl.Model{Domains: []int{1, 0, 7}}, []bool{true, false, false}, false)
	checkTrue(t, impl.Model{Domains: []int{7, 7, 0}}, []bool{true, false, false}, false)
}

func TestPromise127WeakeningPreservesTruth(t *testing.T) {
	s := newSource(242)
	weakened := 0
	for range 600 {
		m, forall := s.winnable()
		checkTrue(t, m, forall, true)
		for v, isForAll := range forall {
			if isForAll {
				weaker := slices.Clone(forall)
				weaker[v] = false
				checkTrue(t, m, weaker, true)
				weakened++
			}
		}
		for i := range m.Constraints {
			weaker, _ := impl.WithoutConstraint(m, i)
			checkTrue(t, weaker, forall, true)
			weakened++
		}
	}
	if weakened < 500 {
		t.Errorf("only %d formulas were weakened", weakened)
	}
}

func TestPromise128WinningValuesDecideTheFormula(t *testing.T) {
	s := newSource(243)
	seen := map[[2]bool]int{}
	for range 800 {
		m, forall := s.quantified()
		won := impl.WinningValues(m, forall)
		want := won != 0
		if forall[0] {
			want = won == m.Domains[0]
		}
		if won&^m.Domains[0] != 0 {
			t.Fatalf("WinningValues(%+v, %v) = %d", m, forall, won)
		}
		checkTrue(t, m, forall, want)
		set := 0
		for _, a := range formulaOf(m, forall, solutionsOf(m)).winningAfter() {
			set |= 1 << a
		}
		checkWinning(t, m, forall, set)
		if won != 0 && won != m.Domains[0] {
			seen[[2]bool{forall[0], want}]++
		}
	}
	if seen[[2]bool{false, true}] < 50 || seen[[2]bool{true, false}] < 50 {
		t.Errorf("the formulas were not balanced: %v", seen)
	}
}

func TestPromise129WinningValueKeepsTheFormulaTrue(t *testing.T) {
	s := newSource(244)
	seen := map[bool]int{}
	for range 800 {
		m, forall := s.quantified()
		won := impl.WinningValues(m, forall)
		for _, a := range valuesOf(m.Domains[0]) {
			wins := impl.DomainHas(won, a)
			seen[wins]++
			checkTrue(t, fixed(m, 0, a), forall, wins)
		}
	}
	if seen[true] < 500 || seen[false] < 500 {
		t.Errorf("the values were not balanced: %v", seen)
	}
}

func TestWinningValues(t *testing.T) {
	m := pairwise(2, 3)
	checkWinning(t, m, []bool{true, false}, 3)
	checkWinning(t, m, []bool{false, false}, 3)
	checkWinning(t, m, []bool{false, true}, 0)
	// The values that one player or the other could choose, even if the formula is false.
	m.Domains = []int{63, 6}
	checkWinning(t, m, []bool{false, true}, 63-6)
	checkWinning(t, m, []bool{true, true}, 63-6)
	m.Domains = []int{63, 4}
	checkWinning(t, m, []bool{true, false}, 63-4)
	checkWinning(t, atLeast(2, 7), []bool{false, false}, 63-3)
	checkWinning(t, atLeast(2, 7), []bool{false, true}, 0)
	checkWinning(t, atLeast(2, 5), []bool{true, true}, 32)
	checkWinning(t, atLeast(1, 2), []bool{true}, 63-3)
	checkWinning(t, atLeast(1, 2), []bool{false}, 63-3)
	checkWinning(t, impl.Model{Domains: []int{40, 0}}, []bool{false, true}, 40)
	checkWinning(t, impl.Model{Domains: []int{40, 0}}, []bool{true, false}, 0)
	checkWinning(t, impl.Model{Domains: []int{0, 40}}, []bool{true, false}, 0)
}

func TestPromise130StrategyIsAcceptedByTheChecker(t *testing.T) {
	s := newSource(245)
	seen := map[bool]int{}
	for i := range 800 {
		m, forall := s.quantified()
		if i%5 == 0 {
			m = s.someModel()
			forall = lastFrom(len(m.Domains), len(m.Domains)-s.IntN(2))
		}
		list, ok := impl.Strategy(m, forall)
		if ok != (impl.IsQuantifiedTrue(m, forall) && !slices.Contains(m.Domains, 0)) {
			t.Fatalf("Strategy(%+v, %v) = %v, %v", m, forall, list, ok)
		}
		seen[ok]++
		if ok {
			checkPlays(t, m, forall, list, true)
		}
		for _, x := range list {
			if !impl.IsSolution(m, x) {
				t.Fatalf("Strategy(%+v, %v) = %v, but %v is no solution", m, forall, list, x)
			}
		}
		checkStrategy(t, m, forall, strategyOf(m, forall)...)
	}
	if seen[true] < 200 || seen[false] < 200 {
		t.Errorf("the formulas were not balanced: %v", seen)
	}
}

func TestStrategies(t *testing.T) {
	m := pairwise(3, 7)
	checkStrategy(t, m, []bool{false, false, false}, []int{0, 1, 2})
	checkStrategy(t, m, []bool{true, false, false}, []int{0, 1, 2}, []int{1, 0, 2}, []int{2, 0, 1})
	checkStrategy(t, m, []bool{false, true, false})
	m.Domains = []int{7, 6, 63}
	checkStrategy(t, m, []bool{false, true, false}, []int{0, 1, 2}, []int{0, 2, 1})
	checkStrategy(t, m, []bool{true, false, true})
	m.Domains = []int{6, 7, 56}
	checkStrategy(t, m, []bool{true, false, true},
		[]int{1, 0, 3}, []int{1, 0, 4}, []int{1, 0, 5}, []int{2, 0, 3}, []int{2, 0, 4}, []int{2, 0, 5})
	// The smallest value for which the rest is true, not the smallest one that a solution has.
	robust := impl.Model{Domains: []int{7, 3}, Constraints: []impl.Constraint{table([]int{0, 1}, []int{0, 0}, []int{1, 1}, []int{2, 0}, []int{2, 1})}}
	checkStrategy(t, robust, []bool{false, true}, []int{2, 0}, []int{2, 1})
	checkStrategy(t, robust, []bool{true, false}, []int{0, 0}, []int{1, 1}, []int{2, 0})
	checkStrategy(t, robust, []bool{true, true})
	checkStrategy(t, robust, []bool{false, false}, []int{0, 0})
	checkStrategy(t, impl.Model{Domains: []int{40}}, []bool{false}, []int{3})
	checkStrategy(t, impl.Model{Domains: []int{40}}, []bool{true}, []int{3}, []int{5})
	// The longest strategy, and a true formula with an empty domain.
	free := impl.Model{Domains: []int{63, 63, 63, 63}}
	checkStrategy(t, free, lastFrom(4, 0), allAssignments(4)...)
	checkStrategy(t, impl.Model{Domains: []int{63, 0}}, []bool{false, true})
	checkStrategy(t, impl.Model{Domains: []int{0}}, []bool{true})
}

func TestPromise131OnlyTrueFormulasHaveAStrategy(t *testing.T) {
	s := newSource(246)
	seen := map[bool]int{}
	for range 1500 {
		m, forall := s.winnable()
		list := formulaOf(m, forall, solutionsOf(m)).playsAfter(s.reply)
		if len(list) > 40 {
			continue
		}
		checkPlays(t, m, forall, list, true)
		changed := s.spoilStrategy(m, list)
		if s.IntN(3) == 0 {
			// The list of another formula.
			forall = slices.Clone(forall)
			v := s.IntN(len(forall))
			forall[v] = !forall[v]
			changed = list
		}
		accepted := impl.CheckStrategy(m, forall, changed)
		if accepted != isStrategy(m, forall, changed) {
			t.Fatalf("CheckStrategy(%+v, %v, %v) = %v", m, forall, changed, accepted)
		}
		seen[accepted]++
		if !accepted {
			continue
		}
		checkTrue(t, m, forall, true)
		for i, x := range changed {
			if !impl.IsSolution(m, x) {
				t.Fatalf("CheckStrategy(%+v, %v, %v), but %v is no solution", m, forall, changed, x)
			}
			checkPlays(t, m, forall, slices.Delete(cloneLists(changed), i, i+1), false)
		}
	}
	if seen[true] < 150 || seen[false] < 400 {
		t.Errorf("the lists were not balanced: %v", seen)
	}
}

func TestPlaysOfStrategies(t *testing.T) {
	m := pairwise(2, 7)
	first := []bool{true, false}
	checkPlays(t, m, first, lists([]int{0, 1}, []int{1, 0}, []int{2, 0}), true)
	// Every answer is allowed, not only the smallest one.
	checkPlays(t, m, first, lists([]int{0, 2}, []int{1, 2}, []int{2, 1}), true)
	// Superfluous plays: a second answer, a play twice.
	checkPlays(t, m, first, lists([]int{0, 1}, []int{0, 2}, []int{1, 0}, []int{2, 0}), false)
	checkPlays(t, m, first, lists([]int{0, 1}, []int{1, 0}, []int{2, 0}, []int{2, 1}), false)
	checkPlays(t, m, first, lists([]int{0, 1}, []int{1, 0}, []int{1, 0}, []int{2, 0}), false)
	checkPlays(t, m, []bool{false, false}, lists([]int{1, 0}), true)
	checkPlays(t, m, []bool{false, false}, lists([]int{1, 0}, []int{2, 0}), false)
	checkPlays(t, m, []bool{false, false}, lists([]int{1, 0}, []int{1, 2}), false)
	checkPlays(t, m, []bool{false, false}, lists([]int{1, 0}, []int{1, 0}), false)
	// Plays that are missing, in another order, no solutions, or not in the domains.
	checkPlays(t, m, first, lists([]int{0, 1}, []int{2, 0}), false)
	checkPlays(t, m, first, lists([]int{1, 0}, []int{2, 0}), false)
	checkPlays(t, m, first, lists([]int{0, 1}, []int{1, 0}), false)
	checkPlays(t, m, first, nil, false)
	checkPlays(t, m, first, [][]int{}, false)
	checkPlays(t, m, first, lists([]int{1, 0}, []int{0, 1}, []int{2, 0}), false)
	checkPlays(t, m, first, lists([]int{2, 0}, []int{1, 0}, []int{0, 1}), false)
	checkPlays(t, m, first, lists([]int{0, 0}, []int{1, 0}, []int{2, 0}), false)
	checkPlays(t, m, first, lists([]int{0, 3}, []int{1, 0}, []int{2, 0}), false)
	checkPlays(t, m, first, lists([]int{0, 1}, []int{1, 0}, []int{2, 0}, []int{3, 0}), false)
	checkPlays(t, m, first, lists([]int{-1, 0}, []int{0, 1}, []int{1, 0}, []int{2, 0}), false)
	// Only plays with the same beginning need the same value.
	three := impl.Model{Domains: []int{3, 7, 3}}
	forall := []bool{true, false, true}
	checkPlays(t, three, forall, lists([]int{0, 2, 0}, []int{0, 2, 1}, []int{1, 0, 0}, []int{1, 0, 1}), true)
	checkPlays(t, three, forall, lists([]int{0, 1, 0}, []int{0, 2, 1}, []int{1, 0, 0}, []int{1, 0, 1}), false)
	checkPlays(t, three, forall, lists([]int{0, 2, 0}, []int{0, 2, 1}, []int{1, 0, 0}), false)
	checkPlays(t, three, forall, lists([]int{0, 2, 1}, []int{1, 0, 0}, []int{1, 0, 1}), false)
	checkPlays(t, three, []bool{true, false, false}, lists([]int{0, 2, 0}, []int{1, 2, 1}), true)
	checkPlays(t, three, []bool{false, true, false}, lists([]int{1, 0, 0}, []int{1, 1, 1}, []int{1, 2, 0}), true)
	checkPlays(t, three, []bool{false, true, false}, lists([]int{0, 0, 0}, []int{1, 1, 1}, []int{1, 2, 0}), false)
	checkPlays(t, three, []bool{false, false, true}, lists([]int{1, 2, 0}, []int{1, 2, 1}), true)
	checkPlays(t, three, []bool{false, false, true}, lists([]int{1, 1, 0}, []int{1, 2, 1}), false)
	// The largest strategy.
	free, all := impl.Model{Domains: []int{63, 63, 63, 63}}, allAssignments(4)
	checkPlays(t, free, lastFrom(4, 0), all, true)
	checkPlays(t, free, lastFrom(4, 0), all[1:], false)
	checkPlays(t, free, lastFrom(4, 0), append(all, all[1295]), false)
	checkPlays(t, free, lastFrom(4, 1), all[216:432], true)
	checkPlays(t, free, lastFrom(4, 1), all[215:431], false)
}

func TestPromise132ValueOfTheGameLiesBetweenTheExtremeValues(t *testing.T) {
	s := newSource(247)
	seen := map[bool]int{}
	larger := 0
	for range 800 {
		m, forall := s.quantified()
		n := len(m.Domains)
		obj := s.objective(n)
		value, ok := impl.Minimax(m, obj, forall)
		seen[ok]++
		if ok != (impl.IsQuantifiedTrue(m, forall) && !slices.Contains(m.Domains, 0)) {
			t.Fatalf("Minimax(%+v, %v, %v) = %d, %v", m, obj, forall, value, ok)
		}
		x, solved := impl.Minimize(m, obj)
		least := impl.ObjectiveValue(obj, x)
		checkMinimax(t, m, obj, lastFrom(n, n), least, solved)
		if ok && value < least {
			t.Fatalf("Minimax(%+v, %v, %v) = %d, but %v has the value %d", m, obj, forall, value, x, least)
		}
		if ok && value > least {
			larger++
		}
	}
	if seen[true] < 200 || seen[false] < 200 || larger < 100 {
		t.Errorf("the formulas were not balanced: %v, %d", seen, larger)
	}
}

func TestPromise133MinimaxIsAttainedByAPlay(t *testing.T) {
	s := newSource(248)
	short := 0
	for range 600 {
		m, forall := s.winnable()
		obj := s.objective(len(m.Domains))
		value, ok := impl.Minimax(m, obj, forall)
		list := impl.SolveAll(m, 20)
		if !ok {
			t.Fatalf("Minimax(%+v, %v, %v) = %d, %v", m, obj, forall, value, ok)
		}
		if impl.CountSolutions(m) > 20 {
			continue
		}
		short++
		if !slices.ContainsFunc(list, func(x []int) bool { return impl.ObjectiveValue(obj, x) == value }) {
			t.Fatalf("Minimax(%+v, %v, %v) = %d, which no solution has", m, obj, forall, value)
		}
	}
	if short < 200 {
		t.Errorf("only %d models had few solutions", short)
	}
}

func TestMinimaxByItsDefinition(t *testing.T) {
	s := newSource(249)
	between := 0
	for i := range 1000 {
		m, forall := s.quantified()
		if i%2 == 0 {
			m, forall = s.winnable()
		}
		obj := s.objective(len(m.Domains))
		if slices.Contains(m.Domains, 0) {
			checkMinimax(t, m, obj, forall, 0, false)
			continue
		}
		want, ok := minimaxOf(m, obj, forall)
		checkMinimax(t, m, obj, forall, want, ok)
		values := []int{}
		for _, x := range solutionsOf(m) {
			values = append(values, valueAt(obj, x))
		}
		if ok && slices.Min(values) < want && want < slices.Max(values) {
			between++
		}
	}
	if between < 100 {
		t.Errorf("the value was between the extreme ones only %d times", between)
	}
}

func TestValuesOfGames(t *testing.T) {
	free := impl.Model{Domains: []int{62, 28}}
	checkMinimax(t, free, []int{1, 1}, []bool{false, false}, 3, true)
	checkMinimax(t, free, []int{1, 1}, []bool{true, false}, 7, true)
	checkMinimax(t, free, []int{1, 1}, []bool{false, true}, 5, true)
	checkMinimax(t, free, []int{1, 1}, []bool{true, true}, 9, true)
	checkMinimax(t, free, []int{-9, 2}, []bool{true, false}, -5, true)
	checkMinimax(t, free, []int{0, 0}, []bool{true, false}, 0, true)
	four := impl.Model{Domains: []int{63, 63, 63, 63}}
	checkMinimax(t, four, []int{-9, -9, -9, -9}, lastFrom(4, 4), -180, true)
	checkMinimax(t, four, []int{9, 9, 9, 9}, lastFrom(4, 0), 180, true)
	// The player must not choose what the opponent could use to violate a constraint, and the opponent may choose it.
	m := impl.Model{Domains: []int{7, 3}, Constraints: []impl.Constraint{table([]int{0, 1}, []int{0, 0}, []int{1, 0}, []int{1, 1}, []int{2, 0}, []int{2, 1})}}
	checkMinimax(t, m, []int{1, 1}, []bool{false, true}, 2, true)
	checkMinimax(t, m, []int{-1, 1}, []bool{false, true}, -1, true)
	checkMinimax(t, m, []int{1, 1}, []bool{true, false}, 2, true)
	checkMinimax(t, m, []int{1, 1}, []bool{true, true}, 0, false)
	checkMinimax(t, m, []int{1, 1}, []bool{false, false}, 0, true)
	// The player sees what the opponent has chosen before.
	checkMinimax(t, pairwise(2, 7), []int{3, -1}, []bool{true, false}, 6-1, true)
	checkMinimax(t, pairwise(2, 7), []int{1, -1}, []bool{true, false}, 1, true)
	checkMinimax(t, pairwise(2, 7), []int{1, -1}, []bool{false, true}, 0, false)
	// A false formula, and empty domains.
	checkMinimax(t, pairwise(4, 7), []int{1, 1, 1, 1}, lastFrom(4, 4), 0, false)
	checkMinimax(t, impl.Model{Domains: []int{0}}, []int{1}, []bool{true}, 0, false)
	checkMinimax(t, impl.Model{Domains: []int{0}}, []int{1}, []bool{false}, 0, false)
	checkMinimax(t, impl.Model{Domains: []int{7, 0}}, []int{1, 1}, []bool{false, true}, 0, false)
	checkMinimax(t, impl.Model{Domains: []int{40}}, []int{-2}, []bool{false}, -10, true)
	checkMinimax(t, impl.Model{Domains: []int{40}}, []int{-2}, []bool{true}, -6, true)
}

func TestPromise134RobustAssignmentSucceedsExactlyIfTheFormulaIsTrue(t *testing.T) {
	s := newSource(250)
	seen := map[[2]bool]int{}
	for i := range 500 {
		m, _ := s.quantified()
		if i%4 == 0 {
			m = s.someModel()
		}
		n := len(m.Domains)
		for k := range n + 1 {
			x, ok := impl.RobustAssignment(m, k)
			checkTrue(t, m, lastFrom(n, k), ok)
			if ok && len(x) != k {
				t.Fatalf("RobustAssignment(%+v, %d) = %v", m, k, x)
			}
			seen[[2]bool{0 < k && k < n, ok}]++
		}
		x, _ := impl.Solve(m)
		if got, ok := impl.RobustAssignment(m, n); !slices.Equal(got, x) || ok != (x != nil) {
			t.Fatalf("RobustAssignment(%+v, %d) = %v, %v, but the solution is %v", m, n, got, ok, x)
		}
	}
	for _, ok := range []bool{false, true} {
		if seen[[2]bool{true, ok}] < 150 || seen[[2]bool{false, ok}] < 150 {
			t.Errorf("the models were not balanced: %v", seen)
		}
	}
}

func TestPromise135RobustAssignmentCanBeCompletedInEveryWay(t *testing.T) {
	s := newSource(251)
	completed := 0
	for range 1000 {
		m, _ := s.quantified()
		n := len(m.Domains)
		k := s.between(0, n)
		x, ok := impl.RobustAssignment(m, k)
		if want := robustOf(m, k); ok != (want != nil) || !slices.Equal(x, want) {
			t.Fatalf("RobustAssignment(%+v, %d) = %v, %v, want %v", m, k, x, ok, want)
		}
		if !ok {
			checkNotRobust(t, m, k)
			continue
		}
		for _, y := range solutionsOf(impl.Model{Domains: m.Domains}) {
			if !slices.Equal(y[:k], x) {
				continue
			}
			completed++
			if !impl.IsSolution(m, y) {
				t.Fatalf("RobustAssignment(%+v, %d) = %v, but %v is no solution", m, k, x, y)
			}
		}
	}
	if completed < 1000 {
		t.Errorf("only %d tuples were tested", completed)
	}
}

func TestRobustAssignments(t *testing.T) {
	atMost := impl.Model{Domains: []int{62, 62, 7}, Constraints: []impl.Constraint{{Kind: impl.Linear, Vars: []int{0, 2, 1}, Args: []int{-1, -1, 1}, Bound: 0}}}
	checkRobust(t, atMost, 3, 1, 1, 0)
	checkRobust(t, atMost, 2, 1, 1)
	checkRobust(t, atMost, 1, 5)
	checkNotRobust(t, atMost, 0)
	// The first list for which everything is a solution, not for which something is.
	m := listed([]int{0, 0, 0}, []int{0, 1, 0}, []int{0, 1, 1}, []int{1, 0, 0}, []int{1, 0, 1}, []int{1, 1, 0}, []int{1, 1, 1}, []int{2, 2, 2})
	m.Domains = []int{7, 3, 3}
	checkRobust(t, m, 3, 0, 0, 0)
	checkRobust(t, m, 2, 0, 1)
	checkRobust(t, m, 1, 1)
	checkNotRobust(t, m, 0)
	// No variables: everything has to be a solution.
	for n := 1; n <= 4; n++ {
		for k := range n + 1 {
			free := impl.Model{Domains: slices.Repeat([]int{56}, n)}
			checkRobust(t, free, k, []int{3, 3, 3, 3}[:k]...)
			free.Constraints = append(free.Constraints, never())
			checkNotRobust(t, free, k)
		}
	}
	checkRobust(t, pairwise(2, 7), 2, 0, 1)
	checkNotRobust(t, pairwise(2, 7), 1)
	checkNotRobust(t, pairwise(2, 7), 0)
	// An empty domain of one of the first variables leaves no list, and of one of the others no tuple.
	for _, constraints := range [][]impl.Constraint{nil, {never()}} {
		empty := impl.Model{Domains: []int{6, 0, 12}, Constraints: constraints}
		checkRobust(t, empty, 0)
		checkRobust(t, empty, 1, 1)
		checkNotRobust(t, empty, 2)
		checkNotRobust(t, empty, 3)
	}
}

func TestQuantifiedFormulasRejectInvalidModels(t *testing.T) {
	for _, m := range invalidModels() {
		n := len(m.Domains)
		for k := range n + 1 {
			forall := lastFrom(n, k)
			checkTrue(t, m, forall, false)
			checkWinning(t, m, forall, 0)
			checkStrategy(t, m, forall)
			checkMinimax(t, m, make([]int, n), forall, 0, false)
			for _, list := range [][][]int{nil, {nil}, lists(make([]int, n)), lists([]int{0})} {
				checkPlays(t, m, forall, list, false)
			}
		}
		for k := -1; k <= n+1; k++ {
			checkNotRobust(t, m, k)
		}
		checkTrue(t, m, nil, false)
		checkTrue(t, m, []bool{true}, false)
		checkWinning(t, m, []bool{false}, 0)
	}
}

func TestQuantifiedFormulasNeedOneQuantifierPerVariable(t *testing.T) {
	for n := 1; n <= 4; n++ {
		ones := slices.Repeat([]int{1}, n)
		for _, m := range []impl.Model{{Domains: ones}, {Domains: make([]int, n)}} {
			for _, length := range []int{0, n - 1, n + 1, 2 * n, 5, 100} {
				if length == n {
					continue
				}
				for _, k := range []int{0, length / 2, length} {
					forall := lastFrom(length, k)
					checkTrue(t, m, forall, false)
					checkWinning(t, m, forall, 0)
					checkStrategy(t, m, forall)
					checkPlays(t, m, forall, nil, false)
					checkPlays(t, m, forall, lists(make([]int, n)), false)
					checkPlays(t, m, forall, lists(make([]int, length)), false)
					checkMinimax(t, m, make([]int, n), forall, 0, false)
					checkMinimax(t, m, make([]int, length), forall, 0, false)
				}
			}
		}
		m := impl.Model{Domains: ones}
		checkPlays(t, m, lastFrom(n, 0), lists(make([]int, n)), true)
	}
}

func TestQuantifiedFormulasRejectInvalidArguments(t *testing.T) {
	for n := 1; n <= 4; n++ {
		m := impl.Model{Domains: slices.Repeat([]int{1}, n)}
		forall := lastFrom(n, n/2)
		for _, limit := range []int{-9, 9} {
			checkMinimax(t, m, slices.Repeat([]int{limit}, n), forall, 0, true)
		}
		for _, obj := range append(invalidObjectives(n), nil) {
			checkMinimax(t, m, obj, forall, 0, false)
			checkMinimax(t, m, obj, lastFrom(n, n), 0, false)
			checkMinimax(t, impl.Model{Domains: slices.Repeat([]int{32}, n)}, obj, forall, 0, false)
		}
		zeros := make([]int, n)
		for _, x := range invalidAssignments(n) {
			checkPlays(t, m, forall, lists(x), false)
			checkPlays(t, m, forall, lists(zeros, x), false)
			checkPlays(t, m, forall, lists(x, zeros), false)
		}
		for _, k := range append(extremeNumbers(), n+1, n+2, 5, 64) {
			checkNotRobust(t, m, k)
			checkNotRobust(t, impl.Model{Domains: zeros}, k)
		}
	}
}

// gameLists calls all functions of the chapter that return lists.
func gameLists(m impl.Model, forall []bool, k int) [][]int {
	plays, _ := impl.Strategy(m, forall)
	x, _ := impl.RobustAssignment(m, k)
	return append(plays, x)
}

func TestQuantifiedFormulasLeaveTheirArgumentsAlone(t *testing.T) {
	s := newSource(252)
	for range 400 {
		m, forall := s.quantified()
		m = roomy(m)
		n := len(m.Domains)
		k := s.IntN(n + 1)
		// All lists have spare memory, which must stay as it is, too.
		obj := s.list(n+3, -9, 9)[:n]
		plain := solutionsOf(m)
		var list [][]int
		for _, x := range plain {
			list = append(list, append(slices.Clone(x), 7, 8, 9)[:n])
		}
		before, objBefore, forallBefore := snapshot(m), slices.Clone(obj[:n+3]), slices.Clone(forall)
		want := spoil(t, gameLists(m, forall, k))
		impl.IsQuantifiedTrue(m, forall)
		impl.WinningValues(m, forall)
		impl.CheckStrategy(m, forall, list)
		impl.Minimax(m, obj, forall)
		if !sameModel(before, snapshot(m)) || !slices.Equal(obj[:n+3], objBefore) || !slices.Equal(forall, forallBefore) {
			t.Fatal("an argument was changed, or shares memory with a result")
		}
		for i, x := range list {
			if !slices.Equal(x[:n+3], append(slices.Clone(plain[i]), 7, 8, 9)) {
				t.Fatal("a play was changed")
			}
		}
		if !sameLists(gameLists(m, forall, k), want) {
			t.Fatal("a result is kept from call to call")
		}
	}
}

package tests

import (
	"math/rand/v2"
	"slices"
	"testing"

	"loop.example/constraintsolver/impl"
)

const (
	smallestInt = -1 << 63
	largestInt  = 1<<63 - 1
)

// invalidDomains lists numbers that are no domains, next to the limits and far from them.
func invalidDomains() []int {
	return []int{-1, -2, -64, 64, 65, 127, 128, 1 << 32, 1<<32 + 1, smallestInt, smallestInt + 1, largestInt}
}

// invalidNumbers lists numbers of variables that no model has.
func invalidNumbers() []int {
	return []int{smallestInt, -4, -1, 0, 5, 6, 1 << 32, 1<<32 + 1, largestInt}
}

// invalidModels lists models that are invalid in different ways.
func invalidModels() []impl.Model {
	never := impl.Constraint{Kind: impl.Linear, Vars: []int{0}, Args: []int{0}, Bound: -1}
	always := impl.Constraint{Kind: impl.AllDifferent, Vars: []int{0}}
	return []impl.Model{
		{},
		{Domains: []int{-1}},
		{Domains: []int{0, 64}},
		{Domains: []int{0, 0, 0, 0, 0}},
		{Domains: []int{1}, Constraints: slices.Repeat([]impl.Constraint{always}, 7)},
		{Domains: []int{0}, Constraints: []impl.Constraint{{}}},
		{Domains: []int{1}, Constraints: []impl.Constraint{always, {Kind: impl.AllDifferent, Vars: []int{1}}}},
		{Constraints: []impl.Constraint{never}},
		{Domains: []int{64}, Constraints: []impl.Constraint{never}},
		{Domains: []int{63}, Constraints: []impl.Constraint{never, {}}},
		{Domains: []int{63}, Constraints: slices.Repeat([]impl.Constraint{never}, 7)},
		{Domains: []int{63, 63, 63, 63, 63}, Constraints: []impl.Constraint{never}},
		{Domains: []int{127}},
		{Domains: []int{63}, Constraints: []impl.Constraint{{Kind: impl.Circuit, Vars: []int{0}, Bound: 1}}},
		{Domains: []int{63}, Constraints: []impl.Constraint{{Kind: 10, Vars: []int{0}}}},
		{Domains: []int{63}, Constraints: []impl.Constraint{{Kind: -1, Vars: []int{0}}}},
		{Domains: []int{63}, Constraints: []impl.Constraint{{Kind: impl.Regular, Vars: []int{0}, Args: []int{0}, Rows: [][]int{{9, 9}}}}},
	}
}

// invalidConstraints lists constraints that are invalid for two variables in different ways.
func invalidConstraints() []impl.Constraint {
	return []impl.Constraint{
		{},
		{Kind: impl.AllDifferent},
		{Kind: impl.AllDifferent, Vars: []int{2}},
		{Kind: impl.AllDifferent, Vars: []int{-1}},
		{Kind: impl.AllDifferent, Vars: []int{0, 0}},
		{Kind: impl.AllDifferent, Vars: []int{0, 1}, Bound: 1},
		{Kind: 10, Vars: []int{0, 1}},
		{Kind: -1, Vars: []int{0, 1}},
		{Kind: largestInt, Vars: []int{0, 1}},
		{Kind: impl.Linear, Vars: []int{0, 1}, Args: []int{0}},
		{Kind: impl.Linear, Vars: []int{0, 1}, Args: []int{0, 0}, Bound: 1000},
		{Kind: impl.Linear, Vars: []int{0}, Args: []int{0}, Bound: -1000},
		{Kind: impl.Linear, Vars: []int{0, 2}, Args: []int{0, 0}, Bound: -1},
		{Kind: impl.Regular, Vars: []int{0, 1}, Args: []int{0}, Rows: [][]int{{9, 9}}},
		{Kind: impl.Table, Vars: []int{0, 1}},
	}
}

// spoil returns a copy of the lists after it has overwritten them, with their spare memory. It reports lists that share
// memory.
func spoil(t *testing.T, lists [][]int) [][]int {
	t.Helper()
	kept := make([][]int, len(lists))
	for i, list := range lists {
		kept[i] = slices.Clone(list)
	}
	for i, list := range lists {
		if !slices.Equal(list, kept[i]) {
			t.Fatal("two lists share memory")
		}
		list = list[:cap(list)]
		for j := range list {
			list[j] = 99
		}
	}
	return kept
}

// allAssignments lists every assignment of n variables in lexicographic order.
func allAssignments(n int) [][]int {
	list := [][]int{{}}
	for range n {
		var longer [][]int
		for _, x := range list {
			for v := 0; v <= 5; v++ {
				longer = append(longer, append(slices.Clone(x), v))
			}
		}
		list = longer
	}
	return list
}

// sameConstraint compares constraints; nil and empty slices are equal.
func sameConstraint(a impl.Constraint, b impl.Constraint) bool {
	return a.Kind == b.Kind && a.Bound == b.Bound && slices.Equal(a.Vars, b.Vars) && slices.Equal(a.Args, b.Args) &&
		slices.EqualFunc(a.Rows, b.Rows, slices.Equal[[]int])
}

// sameModel compares models; nil and empty slices are equal.
func sameModel(a impl.Model, b impl.Model) bool {
	return slices.Equal(a.Domains, b.Domains) && slices.EqualFunc(a.Constraints, b.Constraints, sameConstraint)
}

// isZeroModel reports whether m is the zero Model, as together with false.
func isZeroModel(m impl.Model) bool {
	return len(m.Domains) == 0 && len(m.Constraints) == 0
}

// cloneConstraint returns an independent copy of c.
func cloneConstraint(c impl.Constraint) impl.Constraint {
	rows := make([][]int, len(c.Rows))
	for i, row := range c.Rows {
		rows[i] = slices.Clone(row)
	}
	return impl.Constraint{Kind: c.Kind, Vars: slices.Clone(c.Vars), Args: slices.Clone(c.Args), Bound: c.Bound, Rows: rows}
}

// cloneModel returns an independent copy of m.
func cloneModel(m impl.Model) impl.Model {
	constraints := make([]impl.Constraint, len(m.Constraints))
	for i, c := range m.Constraints {
		constraints[i] = cloneConstraint(c)
	}
	return impl.Model{Domains: slices.Clone(m.Domains), Constraints: constraints}
}

// source makes the same models in every run.
type source struct {
	*rand.Rand
}

func newSource(seed uint64) source {
	return source{rand.New(rand.NewPCG(seed, 1))}
}

// between returns a number in low..high.
func (s source) between(low int, high int) int {
	return low + s.IntN(high-low+1)
}

// list returns numbers in low..high.
func (s source) list(length int, low int, high int) []int {
	numbers := make([]int, length)
	for i := range numbers {
		numbers[i] = s.between(low, high)
	}
	return numbers
}

// rows returns lists of numbers in low..high.
func (s source) rows(count int, length int, low int, high int) [][]int {
	rows := make([][]int, count)
	for i := range rows {
		rows[i] = s.list(length, low, high)
	}
	return rows
}

// constraint returns a valid constraint for n variables. Kinds of two variables become Linear if there is only one.
func (s source) constraint(n int) impl.Constraint {
	c := impl.Constraint{Kind: s.between(1, 9)}
	k := s.between(1, n)
	if c.Kind == impl.NotEqual || c.Kind == impl.Element {
		k = 2
		if n < 2 {
			c.Kind, k = impl.Linear, 1
		}
	}
	c.Vars = s.Perm(n)[:k]
	s.fill(&c, k)
	return c
}

// fill sets the parameters that the kind of c requires.
func (s source) fill(c *impl.Constraint, k int) {
	switch c.Kind {
	case impl.Linear:
		c.Args, c.Bound = s.list(k, -9, 9), s.between(-20, 20)
	case impl.NotEqual:
		c.Args = s.list(1, -5, 5)
	case impl.Element:
		c.Args = s.list(s.between(1, 6), 0, 5)
	case impl.Table:
		c.Rows = s.rows(s.between(1, 8), k, 0, 5)
	case impl.Count:
		c.Args, c.Bound = s.list(1, 0, 5), s.between(0, 4)
	case impl.Cumulative:
		c.Args, c.Bound = s.list(2*k, 0, 9), s.between(0, 9)
	case impl.Regular:
		states := s.between(1, 8)
		c.Rows, c.Args = s.rows(states, 6, -1, states-1), s.Perm(states)[:s.between(0, states)]
	}
}

// modelWith returns a valid model with domains that are at least the given number, and at most so many constraints.
func (s source) modelWith(leastDomain int, mostConstraints int) impl.Model {
	n := s.between(1, 4)
	m := impl.Model{Domains: s.list(n, leastDomain, 63)}
	for range s.between(0, mostConstraints) {
		m.Constraints = append(m.Constraints, s.constraint(n))
	}
	return m
}

// model returns a valid model.
func (s source) model() impl.Model {
	return s.modelWith(0, 6)
}

// easyModel returns a valid model with few constraints and no empty domain, so that it often has solutions.
func (s source) easyModel() impl.Model {
	return s.modelWith(1, 2)
}

// holds is the document's table of kinds, written down independently of the program.
func holds(c impl.Constraint, assignment []int) bool {
	var x []int
	for _, v := range c.Vars {
		x = append(x, assignment[v])
	}
	k := len(x)
	switch c.Kind {
	case impl.Linear:
		for i := range x {
			c.Bound -= c.Args[i] * x[i]
		}
		return c.Bound >= 0
	case impl.NotEqual:
		return x[0]-x[1] != c.Args[0]
	case impl.AllDifferent:
		slices.Sort(x)
		return len(slices.Compact(x)) == k
	case impl.Element:
		for i, v := range c.Args {
			if x[0] == i && x[1] == v {
				return true
			}
		}
		return false
	case impl.Table:
		return slices.ContainsFunc(c.Rows, func(row []int) bool { return slices.Equal(row, x) })
	case impl.Count:
		return len(slices.DeleteFunc(x, func(v int) bool { return v != c.Args[0] })) == c.Bound
	case impl.Cumulative:
		return holdsCumulative(c, x)
	case impl.Regular:
		return holdsRegular(c, x)
	default:
		return holdsCircuit(x)
	}
}

func holdsCumulative(c impl.Constraint, x []int) bool {
	var usage [20]int
	for i, start := range x {
		for t := start; t < start+c.Args[i]; t++ {
			usage[t] += c.Args[len(x)+i]
		}
	}
	return slices.Max(usage[:]) <= c.Bound
}

func holdsRegular(c impl.Constraint, x []int) bool {
	states := []int{0}
	for _, v := range x {
		next := c.Rows[states[0]][v]
		if next < 0 {
			return false
		}
		states[0] = next
	}
	return slices.Contains(c.Args, states[0])
}

func holdsCircuit(x []int) bool {
	visited := map[int]bool{}
	position := 0
	for range x {
		if position >= len(x) {
			return false
		}
		visited[position] = true
		position = x[position]
	}
	return position == 0 && len(visited) == len(x)
}

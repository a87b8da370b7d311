package impl

import "slices"

// satisfactionTest returns the function that reports whether the values x of the variables of c satisfy c, which is
// valid.
func satisfactionTest(c Constraint) func(x []int) bool {
	tests := [...]func(x []int) bool{
		Linear:       linearRule(c).satisfied,
		NotEqual:     notEqualRule(c).satisfied,
		AllDifferent: allDifferentRule(c).satisfied,
		Element:      elementRule(c).satisfied,
		Table:        tableRule(c).satisfied,
		Count:        countRule(c).satisfied,
		Cumulative:   cumulativeRule(c).satisfied,
		Regular:      regularRule(c).satisfied,
		Circuit:      circuitRule(c).satisfied,
	}
	return tests[c.Kind]
}

// weightedSum returns the sum of the values, each times its coefficient.
func weightedSum(coefficients []int, x []int) int {
	sum := 0
	for i, v := range x {
		sum += coefficients[i] * v
	}
	return sum
}

func (c linearRule) satisfied(x []int) bool {
	return weightedSum(c.Args, x) <= c.Bound
}

func (c notEqualRule) satisfied(x []int) bool {
	return x[0] != x[1]+c.Args[0]
}

func (c allDifferentRule) satisfied(x []int) bool {
	// Values start at 0, so they are the indices of a list of all values.
	return areDistinctIndices(x, MaxValue+1)
}

func (c elementRule) satisfied(x []int) bool {
	return x[0] < len(c.Args) && c.Args[x[0]] == x[1]
}

func (c tableRule) satisfied(x []int) bool {
	for _, row := range c.Rows {
		if slices.Equal(row, x) {
			return true
		}
	}
	return false
}

func (c countRule) satisfied(x []int) bool {
	n := 0
	for _, v := range x {
		if v == c.Args[0] {
			n++
		}
	}
	return n == c.Bound
}

func (c cumulativeRule) satisfied(x []int) bool {
	// The usage rises only when a task starts, so it is largest at one of the starts.
	for _, t := range x {
		if c.usage(x, t) > c.Bound {
			return false
		}
	}
	return true
}

// usage returns the total demand of the tasks that are running at time t if they start at x.
func (c cumulativeRule) usage(x []int, t int) int {
	durations, demands := c.Args[:len(x)], c.Args[len(x):]
	total := 0
	for i, start := range x {
		if start <= t && t < start+durations[i] {
			total += demands[i]
		}
	}
	return total
}

func (c regularRule) satisfied(x []int) bool {
	state := 0
	for _, v := range x {
		state = c.Rows[state][v]
		if state == -1 {
			return false
		}
	}
	return slices.Contains(c.Args, state)
}

func (c circuitRule) satisfied(x []int) bool {
	if !allWithin(x, 0, len(x)-1) {
		return false
	}
	position, steps := x[0], 1
	// A walk that has not returned to 0 after len(x) steps goes round a cycle without 0.
	for position != 0 && steps < len(x) {
		position = x[position]
		steps++
	}
	return position == 0 && steps == len(x)
}

// valuesAt returns the values of the variables in the assignment x.
func valuesAt(vars []int, x []int) []int {
	values := make([]int, len(vars))
	for i, v := range vars {
		values[i] = x[v]
	}
	return values
}

// satisfies reports whether the assignment x of a model satisfies its constraint c.
func satisfies(c Constraint, x []int) bool {
	return satisfactionTest(c)(valuesAt(c.Vars, x))
}

// isAssignment reports whether x is an assignment of n variables.
func isAssignment(x []int, n int) bool {
	return len(x) == n && allWithin(x, 0, MaxValue)
}

// IsSolution reports whether the assignment x is a solution of m.
func IsSolution(m Model, x []int) bool {
	if !ValidModel(m) || len(x) != len(m.Domains) {
		return false
	}
	for i, v := range x {
		if !DomainHas(m.Domains[i], v) {
			return false
		}
	}
	return len(Violated(m, x)) == 0
}

// Violated returns the indices of the constraints that x violates.
func Violated(m Model, x []int) []int {
	if !ValidModel(m) || !isAssignment(x, len(m.Domains)) {
		return nil
	}
	var violated []int
	for i, c := range m.Constraints {
		if !satisfies(c, x) {
			violated = append(violated, i)
		}
	}
	return violated
}

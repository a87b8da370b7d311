package impl

// Constraint kinds.
const (
	Linear       = 1
	NotEqual     = 2
	AllDifferent = 3
	Element      = 4
	Table        = 5
	Count        = 6
	Cumulative   = 7
	Regular      = 8
	Circuit      = 9
)

// Limits of models.
const (
	MaxVars        = 4
	MaxConstraints = 6
	MaxRows        = 8
)

// Limits of the numbers in constraints.
const (
	maxCoefficient = 9
	maxLinearBound = 999
	maxAmount      = 9
)

// Constraint restricts the values of the variables Vars. The meaning of Args, Bound and Rows depends on Kind.
type Constraint struct {
	Kind  int
	Vars  []int
	Args  []int
	Bound int
	Rows  [][]int
}

// Model is a constraint satisfaction problem: one domain per variable, and constraints.
type Model struct {
	Domains     []int
	Constraints []Constraint
}

// rule is a constraint of a known kind. Every kind has its own type, with its requirements here and its meaning in the
// layer of assignments.
type rule interface {
	// wellFormed reports whether the fields meet the requirements of the kind, given that Vars is valid.
	wellFormed() bool
}

// The rules, one per kind.
type (
	linearRule       Constraint
	notEqualRule     Constraint
	allDifferentRule Constraint
	elementRule      Constraint
	tableRule        Constraint
	countRule        Constraint
	cumulativeRule   Constraint
	regularRule      Constraint
	circuitRule      Constraint
)

// ruleOf returns the rule of c, or nil if its kind is unknown.
func ruleOf(c Constraint) rule {
	switch c.Kind {
	case Linear:
		return linearRule(c)
	case NotEqual:
		return notEqualRule(c)
	case AllDifferent:
		return allDifferentRule(c)
	case Element:
		return elementRule(c)
	case Table:
		return tableRule(c)
	case Count:
		return countRule(c)
	case Cumulative:
		return cumulativeRule(c)
	case Regular:
		return regularRule(c)
	case Circuit:
		return circuitRule(c)
	}
	return nil
}

func (c linearRule) wellFormed() bool {
	return len(c.Args) == len(c.Vars) && allWithin(c.Args, -maxCoefficient, maxCoefficient) &&
		within(c.Bound, -maxLinearBound, maxLinearBound) && len(c.Rows) == 0
}

func (c notEqualRule) wellFormed() bool {
	return len(c.Vars) == 2 && len(c.Args) == 1 && allWithin(c.Args, -maxCoefficient, maxCoefficient) &&
		c.Bound == 0 && len(c.Rows) == 0
}

func (c allDifferentRule) wellFormed() bool {
	return hasOnlyVars(Constraint(c))
}

func (c elementRule) wellFormed() bool {
	return len(c.Vars) == 2 && within(len(c.Args), 1, MaxValue+1) && allWithin(c.Args, 0, MaxValue) &&
		c.Bound == 0 && len(c.Rows) == 0
}

func (c tableRule) wellFormed() bool {
	return len(c.Args) == 0 && c.Bound == 0 && rowsWithin(c.Rows, len(c.Vars), 0, MaxValue)
}

func (c countRule) wellFormed() bool {
	return len(c.Args) == 1 && isValue(c.Args[0]) && within(c.Bound, 0, MaxVars) && len(c.Rows) == 0
}

func (c cumulativeRule) wellFormed() bool {
	return len(c.Args) == 2*len(c.Vars) && allWithin(c.Args, 0, maxAmount) &&
		within(c.Bound, 0, maxAmount) && len(c.Rows) == 0
}

func (c regularRule) wellFormed() bool {
	return rowsWithin(c.Rows, MaxValue+1, -1, len(c.Rows)-1) && areDistinctIndices(c.Args, len(c.Rows)) && c.Bound == 0
}

func (c circuitRule) wellFormed() bool {
	return hasOnlyVars(Constraint(c))
}

// hasOnlyVars reports whether the fields that a kind without parameters does not mention are empty or 0.
func hasOnlyVars(c Constraint) bool {
	return len(c.Args) == 0 && c.Bound == 0 && len(c.Rows) == 0
}

// allWithin reports whether every number is in low..high.
func allWithin(numbers []int, low int, high int) bool {
	for _, v := range numbers {
		if !within(v, low, high) {
			return false
		}
	}
	return true
}

// rowsWithin reports whether there are 1 to MaxRows rows, each of the given length and with numbers in low..high.
func rowsWithin(rows [][]int, length int, low int, high int) bool {
	return within(len(rows), 1, MaxRows) && listsWithin(rows, length, low, high)
}

// listsWithin reports whether every list has the given length and numbers in low..high.
func listsWithin(lists [][]int, length int, low int, high int) bool {
	for _, list := range lists {
		if len(list) != length || !allWithin(list, low, high) {
			return false
		}
	}
	return true
}

// areDistinctIndices reports whether the numbers are different indices of a list of length n.
func areDistinctIndices(numbers []int, n int) bool {
	seen := make([]bool, n)
	for _, i := range numbers {
		if !within(i, 0, n-1) || seen[i] {
			return false
		}
		seen[i] = true
	}
	return true
}

// ValidConstraint reports whether c is a valid constraint of a model with n variables.
func ValidConstraint(c Constraint, n int) bool {
	if !within(n, 1, MaxVars) || len(c.Vars) == 0 || !areDistinctIndices(c.Vars, n) {
		return false
	}
	r := ruleOf(c)
	return r != nil && r.wellFormed()
}

// ValidModel reports whether m is a valid model.
func ValidModel(m Model) bool {
	if !validDomains(m.Domains) || len(m.Constraints) > MaxConstraints {
		return false
	}
	for _, c := range m.Constraints {
		if !ValidConstraint(c, len(m.Domains)) {
			return false
		}
	}
	return true
}

// validDomains reports whether there are 1 to MaxVars domains, all of them valid.
func validDomains(domains []int) bool {
	return within(len(domains), 1, MaxVars) && allWithin(domains, 0, fullDomain)
}

// WithConstraint returns m with an additional constraint.
func WithConstraint(m Model, c Constraint) (Model, bool) {
	if !ValidModel(m) || len(m.Constraints) == MaxConstraints || !ValidConstraint(c, len(m.Domains)) {
		return Model{}, false
	}
	larger := copyModel(m)
	larger.Constraints = append(larger.Constraints, copyConstraint(c))
	return larger, true
}

// WithoutConstraint returns m without constraint i.
func WithoutConstraint(m Model, i int) (Model, bool) {
	if !ValidModel(m) || !within(i, 0, len(m.Constraints)-1) {
		return Model{}, false
	}
	smaller := Model{Domains: copyInts(m.Domains)}
	for j, c := range m.Constraints {
		if j != i {
			smaller.Constraints = append(smaller.Constraints, copyConstraint(c))
		}
	}
	return smaller, true
}

// copyModel returns a copy of m that shares no memory with it.
func copyModel(m Model) Model {
	constraints := make([]Constraint, 0, len(m.Constraints))
	for _, c := range m.Constraints {
		constraints = append(constraints, copyConstraint(c))
	}
	return Model{Domains: copyInts(m.Domains), Constraints: constraints}
}

// copyConstraint returns a copy of c that shares no memory with it.
func copyConstraint(c Constraint) Constraint {
	c.Vars, c.Args, c.Rows = copyInts(c.Vars), copyInts(c.Args), copyLists(c.Rows)
	return c
}

// copyLists returns a copy of the lists that shares no memory with them.
func copyLists(lists [][]int) [][]int {
	var copied [][]int
	for _, list := range lists {
		copied = append(copied, copyInts(list))
	}
	return copied
}

// copyInts returns a copy of the numbers. Unlike slices.Clone, it does not keep the address of an empty slice.
func copyInts(numbers []int) []int {
	return append([]int(nil), numbers...)
}

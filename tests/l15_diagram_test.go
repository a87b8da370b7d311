package tests

import (
	"fmt"
	"slices"
	"testing"

	"loop.example/constraintsolver/impl"
)

// tuplesOf lists the tuples of the domains that satisfy c, in lexicographic order.
func tuplesOf(c impl.Constraint, domains []int) [][]int {
	var list [][]int
	for _, x := range allAssignments(len(c.Vars)) {
		inside := true
		y := make([]int, len(domains))
		for i, v := range c.Vars {
			inside = inside && slices.Contains(valuesOf(domains[v]), x[i])
			y[v] = x[i]
		}
		if inside && holds(c, y) {
			list = append(list, x)
		}
	}
	return list
}

// after lists what follows the value v at the beginning of the tuples.
func after(tuples [][]int, v int) [][]int {
	var list [][]int
	for _, x := range tuples {
		if x[0] == v {
			list = append(list, x[1:])
		}
	}
	return list
}

// diagramOf is the reduced diagram of tuples with k values by its definition: it goes through the layers from the first
// one, and through the nodes and values of each, and gives every new set of continuations the next number.
func diagramOf(tuples [][]int, k int) [][][]int {
	if len(tuples) == 0 {
		return nil
	}
	var d [][][]int
	layer := [][][]int{tuples}
	for range k {
		var next [][][]int
		numbers := map[string]int{}
		var edges [][]int
		for _, continuations := range layer {
			node := []int{-1, -1, -1, -1, -1, -1}
			for v := range node {
				rest := after(continuations, v)
				if len(rest) == 0 {
					continue
				}
				name := fmt.Sprint(rest)
				if _, ok := numbers[name]; !ok {
					numbers[name] = len(numbers)
					next = append(next, rest)
				}
				node[v] = numbers[name]
			}
			edges = append(edges, node)
		}
		d, layer = append(d, edges), next
	}
	return d
}

// sameDiagram compares diagrams; nil and empty slices are equal.
func sameDiagram(a [][][]int, b [][][]int) bool {
	return slices.EqualFunc(a, b, func(x [][]int, y [][]int) bool { return slices.EqualFunc(x, y, slices.Equal[[]int]) })
}

// cloneDiagram returns an independent copy of a diagram.
func cloneDiagram(d [][][]int) [][][]int {
	var copied [][][]int
	for _, layer := range d {
		var nodes [][]int
		for _, node := range layer {
			nodes = append(nodes, slices.Clone(node))
		}
		copied = append(copied, nodes)
	}
	return copied
}

// isPath reports whether the edges for the values lead from a node of the first layer to the end.
func isPath(d [][][]int, node int, x []int) bool {
	if len(d) == 0 {
		return true
	}
	next := d[0][node][x[0]]
	return next >= 0 && isPath(d[1:], next, x[1:])
}

// pathsOf lists the assignments whose edges are a path.
func pathsOf(d [][][]int) [][]int {
	return slices.DeleteFunc(allAssignments(len(d)), func(x []int) bool { return !isPath(d, 0, x) })
}

// domainsOf returns the domains of the values that occur in lists of n values.
func domainsOf(list [][]int, n int) []int {
	domains := make([]int, n)
	for _, x := range list {
		for i, v := range x {
			domains[i] |= 1 << v
		}
	}
	return domains
}

// productOf returns the number of tuples of the domains.
func productOf(domains []int) int {
	product := 1
	for _, d := range domains {
		product *= len(valuesOf(d))
	}
	return product
}

// edgesOf returns a node with the given edges for the first values, and none for the others.
func edgesOf(edges ...int) []int {
	return append(edges, []int{-1, -1, -1, -1, -1, -1}[len(edges):]...)
}

// layerOf returns the layer of the nodes.
func layerOf(nodes ...[]int) [][]int {
	return nodes
}

// chain returns a diagram that accepts every assignment of n variables, with layers of one node.
func chain(n int) [][][]int {
	var d [][][]int
	for range n {
		d = append(d, layerOf(sixes(0)))
	}
	return d
}

// diagram returns a valid diagram with a share of missing edges. It often has nodes that no path leads to or from, and
// nodes with the same edges.
func (s source) diagram() [][][]int {
	sizes := []int{1}
	for range s.between(0, 3) {
		sizes = append(sizes, s.between(1, 7))
	}
	missing := s.between(0, 9)
	var d [][][]int
	for i, size := range append(sizes, 1)[1:] {
		nodes := s.rows(sizes[i], 6, 0, size-1)
		for _, node := range nodes {
			for v := range node {
				if s.IntN(10) < missing {
					node[v] = -1
				}
			}
		}
		d = append(d, nodes)
	}
	return d
}

// invalidDiagrams lists what is no diagram.
func invalidDiagrams() [][][][]int {
	list := [][][][]int{
		nil, {}, {nil}, {{}}, {{nil}}, {{{}}}, chain(5), chain(100), {layerOf(sixes(0), sixes(0))}, {layerOf(sixes(0), sixes(0)), layerOf(sixes(0))},
		{layerOf(sixes(0)), nil}, {layerOf(sixes(-1)), {}}, {nil, layerOf(sixes(0))}, {layerOf(sixes(-1)), {}, layerOf(sixes(-1))},
		{layerOf(sixes(0)), layerOf(sixes(0), nil)}, {layerOf(sixes(1)), layerOf(sixes(0))}, {layerOf(sixes(0)), slices.Repeat(layerOf(sixes(0)), 217)},
		{layerOf(sixes(-1)), slices.Repeat(layerOf(sixes(-1)), 217), layerOf(sixes(0))}, {layerOf(sixes(0)), slices.Repeat(layerOf(sixes(0)), 5000)},
	}
	for n := 1; n <= 4; n++ {
		for i := range n {
			for _, edge := range []int{-2, 1, 2, 6, 216, 1 << 32, smallestInt, largestInt} {
				for v := range 6 {
					d := chain(n)
					d[i][0][v] = edge
					list = append(list, d)
				}
			}
			for _, node := range [][]int{nil, {0}, {0, 0, 0, 0, 0}, make([]int, 7), make([]int, 1000)} {
				short := chain(n)
				short[i][0] = node
				list = append(list, short)
				if i > 0 {
					more := chain(n)
					more[i] = append(more[i], node)
					list = append(list, more)
				}
			}
		}
	}
	// Node 2 is the last one of the second layer, and nothing leads to the node with the bad edge.
	return append(list,
		[][][]int{layerOf(edgesOf(3)), layerOf(sixes(0), sixes(0), sixes(0))},
		[][][]int{layerOf(edgesOf(2)), layerOf(sixes(0), edgesOf(1), sixes(0))},
		[][][]int{layerOf(edgesOf(2)), layerOf(sixes(0), edgesOf(0, -2), sixes(0))},
		[][][]int{layerOf(sixes(-1)), layerOf(sixes(-1), edgesOf(2)), layerOf(sixes(-1), sixes(-1))})
}

// checkBuilt reports a diagram that is not built as wanted.
func checkBuilt(t *testing.T, c impl.Constraint, domains []int, want [][][]int) {
	t.Helper()
	if d := impl.BuildDiagram(c, domains); !sameDiagram(d, want) {
		t.Errorf("BuildDiagram(%+v, %v) = %v, want %v", c, domains, d, want)
	}
}

// checkPaths reports a valid diagram that is not judged as the assignments that are its paths require.
func checkPaths(t *testing.T, d [][][]int, paths [][]int) {
	t.Helper()
	if !impl.ValidDiagram(d) {
		t.Fatalf("ValidDiagram(%v) = false", d)
	}
	for _, x := range allAssignments(len(d)) {
		want := slices.ContainsFunc(paths, func(y []int) bool { return slices.Equal(x, y) })
		if impl.DiagramAccepts(d, x) != want {
			t.Fatalf("DiagramAccepts(%v, %v) = %v", d, x, !want)
		}
	}
	if got := impl.DiagramCount(d); got != len(paths) {
		t.Fatalf("DiagramCount(%v) = %d, want %d", d, got, len(paths))
	}
	if got := impl.DiagramDomains(d); !slices.Equal(got, domainsOf(paths, len(d))) {
		t.Fatalf("DiagramDomains(%v) = %v, want %v", d, got, domainsOf(paths, len(d)))
	}
}

// picked returns the domains of the variables of c, in their order.
func picked(c impl.Constraint, domains []int) []int {
	var list []int
	for _, v := range c.Vars {
		list = append(list, domains[v])
	}
	return list
}

func TestPromise57DiagramRepresentsItsConstraint(t *testing.T) {
	s := newSource(110)
	built, none := map[int]int{}, map[int]int{}
	for range 3000 {
		n := s.between(1, 4)
		c, domains := s.constraint(n), s.someDomains(n)
		tuples := tuplesOf(c, domains)
		d := impl.BuildDiagram(c, domains)
		if len(tuples) == 0 {
			none[c.Kind]++
			checkBuilt(t, c, domains, nil)
			continue
		}
		built[c.Kind]++
		if !impl.ValidDiagram(d) || len(d) != len(c.Vars) || impl.DiagramCount(d) != len(tuples) {
			t.Fatalf("BuildDiagram(%+v, %v) = %v", c, domains, d)
		}
		if got, want := impl.DiagramDomains(d), picked(c, impl.Filter(c, domains)); !slices.Equal(got, want) {
			t.Fatalf("DiagramDomains(%v) = %v, but Filter(%+v, %v) leaves %v", d, got, c, domains, want)
		}
		alone := impl.Model{Domains: domains, Constraints: []impl.Constraint{c}}
		if got := impl.CountSolutions(alone); len(c.Vars) == n && got != impl.DiagramCount(d) {
			t.Fatalf("CountSolutions(%+v) = %d, but DiagramCount(%v) = %d", alone, got, d, impl.DiagramCount(d))
		}
	}
	for kind := 1; kind <= 9; kind++ {
		if built[kind] < 50 || none[kind] == 0 {
			t.Errorf("kind %d had %d diagrams, and %d times none", kind, built[kind], none[kind])
		}
	}
}

func TestBuildDiagramByItsDefinition(t *testing.T) {
	s := newSource(111)
	widest := 0
	for range 1500 {
		n := s.between(1, 4)
		c, domains := s.constraint(n), s.list(n, s.between(0, 20), 63)
		want := diagramOf(tuplesOf(c, domains), len(c.Vars))
		checkBuilt(t, c, domains, want)
		for _, layer := range want {
			widest = max(widest, len(layer))
		}
		if len(want) > 0 {
			checkPaths(t, want, tuplesOf(c, domains))
		}
	}
	if widest < 8 {
		t.Errorf("the widest layer had only %d nodes", widest)
	}
}

func TestPromise58DiagramsAreReduced(t *testing.T) {
	s := newSource(112)
	for range 1500 {
		n := s.between(1, 4)
		d := impl.BuildDiagram(s.constraint(n), s.list(n, 1, 63))
		for i, layer := range d {
			var targets []int
			for k, node := range layer {
				if slices.ContainsFunc(layer[:k], func(other []int) bool { return slices.Equal(node, other) }) {
					t.Fatalf("two nodes of layer %d of %v have the same edges", i, d)
				}
				for _, edge := range node {
					if edge >= 0 && !slices.Contains(targets, edge) {
						targets = append(targets, edge)
					}
				}
				if slices.Max(node) < 0 {
					t.Fatalf("node %d of layer %d of %v has no continuation", k, i, d)
				}
			}
			// The edges of a layer first occur in the order of the nodes of the next one.
			next := append(slices.Clone(d), layerOf(nil))[i+1]
			if !slices.Equal(targets, others(len(next), nil)) {
				t.Fatalf("the edges of layer %d of %v lead to the nodes %v of %d", i, d, targets, len(next))
			}
		}
	}
}

func TestDiagramsWithTheirNumbers(t *testing.T) {
	// The sum is even: both nodes of the second layer have edges to both nodes of the third one.
	even := impl.Constraint{Kind: impl.Table, Vars: []int{0, 1, 2}, Rows: [][]int{{1, 1, 0}, {0, 1, 1}, {1, 0, 1}, {0, 0, 0}}}
	checkBuilt(t, even, []int{63, 63, 63}, [][][]int{layerOf(edgesOf(0, 1)), layerOf(edgesOf(0, 1), edgesOf(1, 0)), layerOf(edgesOf(0), edgesOf(-1, 0))})
	// Numbers follow the edges, and not the values or the order of the rows.
	crossed := impl.Constraint{Kind: impl.Table, Vars: []int{1, 0}, Rows: [][]int{{5, 0}, {3, 4}, {0, 4}, {4, 2}, {1, 0}}}
	checkBuilt(t, crossed, []int{63, 63}, [][][]int{layerOf([]int{0, 1, -1, 0, 2, 1}), layerOf(edgesOf(-1, -1, -1, -1, 0), edgesOf(0), edgesOf(-1, -1, 0))})
	// What leads to no satisfying tuple is no edge, and takes no number.
	checkBuilt(t, crossed, []int{63 - 16, 63}, [][][]int{layerOf([]int{-1, 0, -1, -1, 1, 0}), layerOf(edgesOf(0), edgesOf(-1, -1, 0))})
	checkBuilt(t, crossed, []int{63, 16 + 4}, [][][]int{layerOf(edgesOf(-1, -1, -1, -1, 0)), layerOf(edgesOf(-1, -1, 0))})
	// The last node of the last layer is first met behind the second node of the layer before.
	late := impl.Constraint{Kind: impl.Table, Vars: []int{0, 1, 2}, Rows: [][]int{{2, 3, 0}, {2, 1, 5}, {4, 0, 0}, {4, 1, 4}, {4, 5, 5}, {5, 3, 0}, {5, 1, 5}}}
	checkBuilt(t, late, []int{63, 63, 63}, [][][]int{layerOf([]int{-1, -1, 0, -1, 1, 0}), layerOf(edgesOf(-1, 0, -1, 1), []int{1, 2, -1, -1, -1, 0}),
		layerOf(edgesOf(-1, -1, -1, -1, -1, 0), edgesOf(0), edgesOf(-1, -1, -1, -1, 0))})
	// Layers follow the variables of the constraint, not those of the model.
	less := impl.Constraint{Kind: impl.Linear, Vars: []int{2, 0}, Args: []int{1, -1}, Bound: -1}
	checkBuilt(t, less, []int{7, 63, 3}, [][][]int{layerOf(edgesOf(0, 1)), layerOf(edgesOf(-1, 0, 0), edgesOf(-1, -1, 0))})
	// One variable has one layer.
	checkBuilt(t, impl.Constraint{Kind: impl.Count, Vars: []int{1}, Args: []int{3}}, []int{0, 63}, [][][]int{layerOf([]int{0, 0, 0, -1, 0, 0})})
}

func TestDiagramsOfTheLargestDomains(t *testing.T) {
	domains := []int{63, 63, 63, 63}
	// What is left depends on the set of the values that are taken.
	d := impl.BuildDiagram(impl.Constraint{Kind: impl.AllDifferent, Vars: []int{3, 1, 0, 2}}, domains)
	if len(d) != 4 || len(d[1]) != 6 || len(d[2]) != 15 || len(d[3]) != 20 || impl.DiagramCount(d) != 360 {
		t.Errorf("BuildDiagram with six values for four different variables = %v", d)
	}
	free := impl.Constraint{Kind: impl.Linear, Vars: []int{0, 1, 2, 3}, Args: []int{9, 9, 9, 9}, Bound: 180}
	checkBuilt(t, free, domains, chain(4))
	if got := impl.DiagramCount(chain(4)); got != 1296 {
		t.Errorf("DiagramCount of all tuples = %d", got)
	}
	free.Bound = 179
	if got := impl.DiagramCount(impl.BuildDiagram(free, domains)); got != 1295 {
		t.Errorf("DiagramCount of all tuples but one = %d", got)
	}
	// Every sum of the first values leaves other continuations.
	sum := impl.Constraint{Kind: impl.Linear, Vars: []int{0, 1, 2, 3}, Args: []int{-9, 6, 1, -2}, Bound: 0}
	checkBuilt(t, sum, domains, diagramOf(tuplesOf(sum, domains), 4))
}

func TestDiagramsOfUnsatisfiableConstraints(t *testing.T) {
	for _, c := range append(bases(), impl.Constraint{Kind: impl.AllDifferent, Vars: []int{0, 1}}) {
		checkBuilt(t, c, []int{0, 63}, nil)
		checkBuilt(t, c, []int{63, 0, 63}, nil)
		checkBuilt(t, c, []int{0, 0}, nil)
	}
	never := impl.Constraint{Kind: impl.Linear, Vars: []int{0}, Args: []int{0}, Bound: -1}
	checkBuilt(t, never, []int{63}, nil)
	checkBuilt(t, impl.Constraint{Kind: impl.AllDifferent, Vars: []int{0, 1, 2}}, []int{3, 3, 3}, nil)
	checkBuilt(t, impl.Constraint{Kind: impl.Regular, Vars: []int{0, 1}, Rows: [][]int{sixes(0)}}, []int{63, 63}, nil)
	checkBuilt(t, impl.Constraint{Kind: impl.Table, Vars: []int{1, 0}, Rows: [][]int{{5, 4}}}, []int{31 - 16, 63}, nil)
}

func TestDiagramsIgnoreVariablesOutsideTheConstraint(t *testing.T) {
	c := impl.Constraint{Kind: impl.AllDifferent, Vars: []int{2, 0}}
	want := [][][]int{layerOf(edgesOf(0, 1)), layerOf(edgesOf(-1, 0), edgesOf(0))}
	for d := 0; d <= 63; d++ {
		checkBuilt(t, c, []int{3, d, 3}, want)
		checkBuilt(t, c, []int{3, 63 - d, 3, d}, want)
	}
}

func TestPromise71EntailedConstraintHasAFullDiagram(t *testing.T) {
	s := newSource(113)
	entailed := map[int]int{}
	for range 6000 {
		n := s.between(1, 4)
		c, domains := s.constraint(n), s.list(n, 1, 63)
		if s.IntN(2) == 0 {
			domains = impl.Filter(c, domains)
		}
		if slices.Contains(domains, 0) {
			continue
		}
		d := impl.BuildDiagram(c, domains)
		sizes := picked(c, domains)
		if full := impl.DiagramCount(d) == productOf(sizes); full != impl.IsEntailed(c, domains) {
			t.Fatalf("IsEntailed(%+v, %v) = %v, but the diagram is %v", c, domains, !full, d)
		} else if !full {
			continue
		}
		entailed[c.Kind]++
		var want [][][]int
		for _, domain := range sizes {
			node := []int{-1, -1, -1, -1, -1, -1}
			for _, v := range valuesOf(domain) {
				node[v] = 0
			}
			want = append(want, layerOf(node))
		}
		checkBuilt(t, c, domains, want)
	}
	if len(entailed) != 9 {
		t.Errorf("constraints were entailed: %v", entailed)
	}
}

func TestBuildDiagramRejectsInvalidArguments(t *testing.T) {
	for _, domains := range invalidDomainLists() {
		for _, c := range append(bases(), impl.Constraint{Kind: impl.AllDifferent, Vars: []int{0}}) {
			checkBuilt(t, c, domains, nil)
		}
	}
	for _, c := range invalidConstraints() {
		for _, domains := range [][]int{{1, 2}, {63, 63}, {0, 0}} {
			checkBuilt(t, c, domains, nil)
		}
	}
	for _, c := range bases() {
		checkBuilt(t, c, []int{63}, nil)
	}
}

func TestValidDiagrams(t *testing.T) {
	valid := [][][][]int{
		{layerOf(sixes(0))}, {layerOf(sixes(-1))}, chain(2), chain(3), chain(4), {layerOf(sixes(-1)), layerOf(sixes(-1)), layerOf(sixes(-1)), layerOf(sixes(-1))},
		{layerOf(sixes(215)), slices.Repeat(layerOf(sixes(0)), 216)}, {layerOf(edgesOf(2, 1, 0)), layerOf(sixes(0), sixes(-1), sixes(0))},
		{layerOf(sixes(0)), slices.Repeat(layerOf(sixes(215)), 216), slices.Repeat(layerOf(sixes(215)), 216), slices.Repeat(layerOf(sixes(0)), 216)},
	}
	for _, d := range valid {
		if !impl.ValidDiagram(d) {
			t.Errorf("ValidDiagram(%v) = false", d)
		}
		checkPaths(t, d, pathsOf(d))
	}
	if impl.MaxNodes != 216 {
		t.Errorf("MaxNodes = %d", impl.MaxNodes)
	}
	for _, d := range invalidDiagrams() {
		if impl.ValidDiagram(d) {
			t.Errorf("ValidDiagram(%v) = true", d)
		}
	}
}

func TestPromise59DiagramAcceptsFollowsTheEdges(t *testing.T) {
	s := newSource(114)
	accepted, rejected := 0, 0
	for range 300 {
		d := s.diagram()
		if !impl.ValidDiagram(d) {
			t.Fatalf("ValidDiagram(%v) = false", d)
		}
		domains := impl.DiagramDomains(d)
		for _, x := range allAssignments(len(d)) {
			want := isPath(d, 0, x)
			if impl.DiagramAccepts(d, x) != want {
				t.Fatalf("DiagramAccepts(%v, %v) = %v", d, x, !want)
			}
			if !want {
				rejected++
				continue
			}
			accepted++
			for i, v := range x {
				if !impl.DomainHas(domains[i], v) {
					t.Fatalf("DiagramDomains(%v) = %v, but %v is accepted", d, domains, x)
				}
			}
		}
	}
	if accepted < 5000 || rejected < 5000 {
		t.Errorf("%d assignments were accepted, and %d were not", accepted, rejected)
	}
}

func TestPromise60DiagramCountIsTheNumberOfAcceptedAssignments(t *testing.T) {
	s := newSource(115)
	empty, partial := 0, 0
	for range 1000 {
		d := s.diagram()
		paths := pathsOf(d)
		count, domains := impl.DiagramCount(d), impl.DiagramDomains(d)
		if count != len(paths) || !slices.Equal(domains, domainsOf(paths, len(d))) {
			t.Fatalf("DiagramCount(%v) = %d, and the domains are %v, but its paths are %v", d, count, domains, paths)
		}
		if (count == 0) != slices.Contains(domains, 0) || (count == 0) != (slices.Max(domains) == 0) || count > productOf(domains) {
			t.Fatalf("DiagramCount(%v) = %d, with the domains %v", d, count, domains)
		}
		if count == 0 {
			empty++
		} else if count < productOf(domains) {
			partial++
		}
	}
	if empty < 100 || partial < 100 {
		t.Errorf("%d diagrams were empty, and %d had other paths than all tuples of their domains", empty, partial)
	}
}

func TestNodesWithoutPaths(t *testing.T) {
	for _, c := range []struct {
		d       [][][]int
		count   int
		domains []int
	}{
		{[][][]int{layerOf(sixes(-1))}, 0, []int{0}},
		// All edges lead to a node without edges.
		{[][][]int{layerOf(sixes(0)), layerOf(sixes(-1))}, 0, []int{0, 0}},
		// The first node has no edges, and nothing leads to the others.
		{[][][]int{layerOf(sixes(-1)), layerOf(sixes(0)), layerOf(sixes(0))}, 0, []int{0, 0, 0}},
		// Value 1 leads to a dead end, and no edge to the last node.
		{[][][]int{layerOf(edgesOf(0, 1)), layerOf(edgesOf(-1, 0, 0), sixes(-1), sixes(0))}, 2, []int{1, 6}},
		// The dead end comes one layer later.
		{[][][]int{layerOf(edgesOf(0, 1, 0)), layerOf(edgesOf(-1, 1), edgesOf(0, 0)), layerOf(sixes(-1), edgesOf(-1, -1, 0))}, 2, []int{5, 2, 4}},
		// A node that only a node without a path leads to, and which is on no path.
		{[][][]int{layerOf(edgesOf(0)), layerOf(edgesOf(0), sixes(1)), layerOf(edgesOf(0), sixes(0))}, 1, []int{1, 1, 1}},
		// A dead end that has edges to nodes which are on other paths.
		{[][][]int{layerOf(edgesOf(0, 1)), layerOf(edgesOf(0), edgesOf(-1, 1)), layerOf(edgesOf(-1, -1, 0), sixes(-1))}, 1, []int{1, 1, 4}},
		// Nodes with the same edges are different all the same.
		{[][][]int{layerOf(edgesOf(0, 1, 2)), layerOf(edgesOf(0, 0), edgesOf(0, 0), edgesOf(0, 0))}, 6, []int{7, 3}},
	} {
		checkPaths(t, c.d, pathsOf(c.d))
		if count, domains := impl.DiagramCount(c.d), impl.DiagramDomains(c.d); count != c.count || !slices.Equal(domains, c.domains) {
			t.Errorf("DiagramCount(%v) = %d, want %d, and the domains are %v, want %v", c.d, count, c.count, domains, c.domains)
		}
	}
}

func TestDiagramAcceptsRejectsWhatIsNoAssignment(t *testing.T) {
	for n := 1; n <= 4; n++ {
		d := chain(n)
		if !impl.DiagramAccepts(d, make([]int, n)) || !impl.DiagramAccepts(d, slices.Repeat([]int{5}, n)) {
			t.Errorf("DiagramAccepts(%v) is not always true", d)
		}
		for _, x := range invalidAssignments(n) {
			if impl.DiagramAccepts(d, x) {
				t.Errorf("DiagramAccepts(%v, %v) = true", d, x)
			}
		}
	}
}

func TestDiagramsThatAreNone(t *testing.T) {
	for _, d := range invalidDiagrams() {
		for n := range 7 {
			if impl.DiagramAccepts(d, make([]int, n)) {
				t.Errorf("DiagramAccepts(%v) with %d values = true", d, n)
			}
		}
		if got := impl.DiagramCount(d); got != -1 {
			t.Errorf("DiagramCount(%v) = %d", d, got)
		}
		if got := impl.DiagramDomains(d); len(got) != 0 {
			t.Errorf("DiagramDomains(%v) = %v", d, got)
		}
	}
}

func TestDiagramsLeaveTheirArgumentsAlone(t *testing.T) {
	s := newSource(116)
	for range 500 {
		m := roomy(s.easyModel())
		n := len(m.Domains)
		c := roomy(impl.Model{Constraints: []impl.Constraint{s.constraint(n)}}).Constraints[0]
		before, beforeC := snapshot(m), cloneConstraint(c)
		d := impl.BuildDiagram(c, m.Domains)
		want := cloneDiagram(d)
		var nodes [][]int
		for _, layer := range d {
			nodes = append(nodes, layer...)
		}
		spoil(t, nodes)
		for _, layer := range d {
			clear(layer[:cap(layer)])
		}
		again := impl.BuildDiagram(c, m.Domains)
		if !sameDiagram(again, want) || !sameModel(before, snapshot(m)) || !sameConstraint(beforeC, c) {
			t.Fatal("a diagram is kept, or shares memory with an argument")
		}
		x := s.list(len(c.Vars), 0, 5)
		xBefore := slices.Clone(x)
		domains := impl.DiagramDomains(again)
		wantDomains := slices.Clone(domains)
		spoil(t, [][]int{domains})
		impl.DiagramAccepts(again, x)
		impl.DiagramCount(again)
		if !slices.Equal(impl.DiagramDomains(again), wantDomains) || !sameDiagram(again, want) || !slices.Equal(x, xBefore) {
			t.Fatal("domains are kept, or an argument was changed")
		}
	}
}

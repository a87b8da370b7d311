package tests

import (
	"slices"
	"testing"

	"loop.example/constraintsolver/impl"
)

// sameStore compares stores; nil and empty slices are equal.
func sameStore(a impl.Store, b impl.Store) bool {
	return sameModel(a.Model, b.Model) && sameLists(a.Levels, b.Levels)
}

// isZeroStore reports whether s is the zero Store, as for invalid arguments.
func isZeroStore(s impl.Store) bool {
	return isZeroModel(s.Model) && len(s.Levels) == 0
}

// cloneLists returns an independent copy of lists.
func cloneLists(list [][]int) [][]int {
	var copied [][]int
	for _, x := range list {
		copied = append(copied, slices.Clone(x))
	}
	return copied
}

// decidedOf returns the domains that a decision leaves by its definition.
func decidedOf(m impl.Model, domains []int, l impl.Literal) []int {
	left := slices.Clone(domains)
	for _, a := range valuesOf(left[l.Var]) {
		if !literalHolds(l, a) {
			left[l.Var] &^= 1 << a
		}
	}
	return propagated(impl.Model{Domains: left, Constraints: m.Constraints})
}

// literal returns a valid literal for n variables.
func (s source) literal(n int) impl.Literal {
	return impl.Literal{Var: s.IntN(n), Value: s.IntN(6), Not: s.IntN(2) == 0}
}

// store returns a valid store with the given number of levels. Every third one has levels that no decision leaves.
func (s source) store(levels int) impl.Store {
	m := s.someModel()
	store := impl.Store{Model: m}
	loose := s.IntN(3) == 0
	for i := range levels {
		n := len(m.Domains)
		switch {
		case loose:
			store.Levels = append(store.Levels, s.someDomains(n))
		case i == 0:
			store.Levels = append(store.Levels, propagated(m))
		default:
			store.Levels = append(store.Levels, decidedOf(m, store.Levels[i-1], s.literal(n)))
		}
	}
	return store
}

// levelsOf returns a store with a model and the given levels.
func levelsOf(m impl.Model, levels ...[]int) impl.Store {
	return impl.Store{Model: m, Levels: levels}
}

// invalidStores lists what is no store in different ways.
func invalidStores() []impl.Store {
	two := impl.Model{Domains: []int{63, 63}}
	list := []impl.Store{{}, {Model: two}, {Levels: lists([]int{63})}, {Levels: lists(nil)}}
	for _, count := range []int{13, 14, 100} {
		list = append(list, levelsOf(two, slices.Repeat(lists([]int{1, 2}), count)...))
	}
	for _, domains := range lists(nil, []int{}, []int{63}, []int{63, 63, 63}, make([]int, 100)) {
		list = append(list, levelsOf(two, domains), levelsOf(two, []int{3, 3}, domains), levelsOf(two, domains, []int{3, 3}))
	}
	for _, d := range invalidDomains() {
		list = append(list, levelsOf(two, []int{d, 1}), levelsOf(two, []int{3, 3}, []int{1, d}), levelsOf(two, []int{1, d}, []int{3, 3}))
		list = append(list, levelsOf(two, []int{3, 3}, []int{d, 1}, []int{3, 3}))
	}
	for _, m := range invalidModels() {
		list = append(list, impl.Store{Model: m}, levelsOf(m, make([]int, len(m.Domains))), levelsOf(m, []int{63}), levelsOf(m, m.Domains))
	}
	return list
}

// checkNew reports a model whose new store does not have the wanted level.
func checkNew(t *testing.T, m impl.Model, want ...int) {
	t.Helper()
	if got := impl.NewStore(m); !sameStore(got, levelsOf(m, want)) {
		t.Errorf("NewStore(%+v) = %+v, want the level %v", m, got, want)
	}
}

// checkDecide reports a decision that does not add the wanted level. It returns the new store.
func checkDecide(t *testing.T, s impl.Store, l impl.Literal, want ...int) impl.Store {
	t.Helper()
	longer := impl.Store{Model: s.Model, Levels: append(slices.Clone(s.Levels), want)}
	got, ok := impl.Decide(s, l)
	if !ok || !sameStore(got, longer) {
		t.Errorf("Decide(%+v, %v) = %+v, %v, want the further level %v", s, l, got, ok, want)
	}
	if current := impl.CurrentDomains(got); !slices.Equal(current, want) {
		t.Errorf("CurrentDomains(%+v) = %v, want %v", got, current, want)
	}
	return longer
}

// checkNotDecided reports a decision that is possible although it should not be, or does not leave the store as it is.
func checkNotDecided(t *testing.T, s impl.Store, l impl.Literal) {
	t.Helper()
	if got, ok := impl.Decide(s, l); ok || !sameStore(got, s) {
		t.Errorf("Decide(%+v, %v) = %+v, %v", s, l, got, ok)
	}
}

// checkJump reports a level to which Backjump does not go.
func checkJump(t *testing.T, s impl.Store, level int) {
	t.Helper()
	shorter := impl.Store{Model: s.Model, Levels: s.Levels[:level+1]}
	got, ok := impl.Backjump(s, level)
	if !ok || !sameStore(got, shorter) {
		t.Errorf("Backjump(%+v, %d) = %+v, %v", s, level, got, ok)
	}
	if current := impl.CurrentDomains(got); !slices.Equal(current, s.Levels[level]) {
		t.Errorf("CurrentDomains(%+v) = %v", got, current)
	}
}

// checkNoJump reports a level to which Backjump goes although there is none, or a store that it does not leave as it is.
func checkNoJump(t *testing.T, s impl.Store, level int) {
	t.Helper()
	if got, ok := impl.Backjump(s, level); ok || !sameStore(got, s) {
		t.Errorf("Backjump(%+v, %d) = %+v, %v", s, level, got, ok)
	}
}

// checkStore reports a store that ValidStore judges wrongly.
func checkStore(t *testing.T, s impl.Store, want bool) {
	t.Helper()
	if impl.ValidStore(s) != want {
		t.Errorf("ValidStore(%+v) = %v", s, !want)
	}
}

func TestValidStores(t *testing.T) {
	if impl.MaxLevels != 12 {
		t.Errorf("MaxLevels = %d", impl.MaxLevels)
	}
	s := newSource(130)
	for range 200 {
		checkStore(t, s.store(s.between(1, 12)), true)
	}
	m := impl.Model{Domains: []int{1, 6}}
	for count := range 20 {
		checkStore(t, levelsOf(m, slices.Repeat(lists([]int{1, 4}), count)...), count >= 1 && count <= 12)
	}
	// The levels need not be domains of the model, nor contained in each other, nor propagated, nor different.
	checkStore(t, levelsOf(m, []int{63, 63}, []int{0, 63}, []int{63, 0}, []int{63, 0}), true)
	checkStore(t, levelsOf(impl.Model{Domains: []int{0}}, []int{0}), true)
	checkStore(t, levelsOf(impl.Model{Domains: []int{0, 0, 0, 0}}, []int{0, 63, 1, 32}), true)
	for _, s := range invalidStores() {
		checkStore(t, s, false)
	}
}

func TestPromise67NewStoreHasThePropagatedDomains(t *testing.T) {
	s := newSource(131)
	empty := 0
	for range 400 {
		m := s.provable()
		want := propagated(m)
		checkNew(t, m, want...)
		got := impl.NewStore(m)
		if len(got.Levels) != 1 || !slices.Equal(impl.CurrentDomains(got), impl.Propagate(m)) {
			t.Fatalf("NewStore(%+v) = %+v", m, got)
		}
		if want[0] == 0 {
			empty++
		}
	}
	if empty < 40 || empty > 360 {
		t.Errorf("propagation failed %d times", empty)
	}
	checkNew(t, impl.Model{Domains: []int{63, 5}}, 63, 5)
	checkNew(t, impl.Model{Domains: []int{63, 0}}, 0, 0)
	// The model keeps its domains.
	checkNew(t, impl.Model{Domains: []int{7, 1}, Constraints: pairwise(2, 7).Constraints}, 6, 1)
	for _, m := range invalidModels() {
		if got := impl.NewStore(m); !isZeroStore(got) {
			t.Errorf("NewStore(%+v) = %+v", m, got)
		}
	}
}

func TestPromise65BackjumpingUndoesDecisions(t *testing.T) {
	s := newSource(132)
	empty, full := 0, 0
	for range 500 {
		store := s.store(s.between(1, 11))
		last := len(store.Levels) - 1
		before := store.Levels[last]
		l := s.literal(len(before))
		decided, ok := impl.Decide(store, l)
		if !ok || len(decided.Levels) != last+2 || !sameLists(decided.Levels[:last+1], store.Levels) {
			t.Fatalf("Decide(%+v, %v) = %+v, %v", store, l, decided, ok)
		}
		domains := impl.CurrentDomains(decided)
		if !contains(before, domains) {
			t.Fatalf("deciding %v of %+v leaves %v", l, store, domains)
		}
		for _, a := range valuesOf(domains[l.Var]) {
			if !literalHolds(l, a) {
				t.Fatalf("%v does not hold in %v, decided for %+v", l, domains, store)
			}
		}
		if back, ok := impl.Backjump(decided, last); !ok || !sameStore(back, store) {
			t.Fatalf("Backjump(%+v, %d) = %+v, %v, want %+v", decided, last, back, ok, store)
		}
		if domains[0] == 0 {
			empty++
		} else {
			full++
		}
	}
	if empty < 100 || full < 100 {
		t.Errorf("domains became empty %d times, and not %d times", empty, full)
	}
}

func TestDecideByItsDefinition(t *testing.T) {
	s := newSource(133)
	for range 500 {
		store := s.store(s.between(1, 11))
		domains := store.Levels[len(store.Levels)-1]
		l := s.literal(len(domains))
		checkDecide(t, store, l, decidedOf(store.Model, domains, l)...)
		if t.Failed() {
			return
		}
	}
}

func TestDecisions(t *testing.T) {
	s := impl.NewStore(pairwise(3, 7))
	a := checkDecide(t, s, is(0, 1), 2, 5, 5)
	checkDecide(t, a, isNot(1, 0), 2, 4, 1)
	// A decision that holds already, or again, still adds a level.
	checkDecide(t, a, is(0, 1), 2, 5, 5)
	checkDecide(t, a, isNot(0, 5), 2, 5, 5)
	checkDecide(t, s, isNot(0, 3), 7, 7, 7)
	checkDecide(t, s, isNot(2, 2), 7, 7, 3)
	// The last level counts, not the domains of the model, and it is propagated even if it is not restricted.
	loose := levelsOf(pairwise(2, 3), []int{3, 3}, []int{48, 16})
	checkDecide(t, loose, isNot(0, 0), 32, 16)
	checkDecide(t, loose, is(0, 5), 32, 16)
	checkDecide(t, loose, is(0, 1), 0, 0)
}

func TestDecisionsThatMakeTheDomainsEmpty(t *testing.T) {
	// All domains are empty, not only the one of the variable, with and without constraints.
	free := impl.NewStore(impl.Model{Domains: []int{3, 12, 63}})
	a := checkDecide(t, free, is(0, 5), 0, 0, 0)
	checkDecide(t, free, is(1, 0), 0, 0, 0)
	s := impl.NewStore(pairwise(2, 3))
	checkDecide(t, s, is(1, 2), 0, 0)
	b := checkDecide(t, s, is(1, 1), 1, 2)
	c := checkDecide(t, b, isNot(1, 1), 0, 0)
	checkDecide(t, b, is(0, 1), 0, 0)
	// The next decisions find them empty, and are possible.
	a = checkDecide(t, a, is(0, 0), 0, 0, 0)
	checkDecide(t, a, isNot(2, 0), 0, 0, 0)
	checkDecide(t, c, is(0, 0), 0, 0)
	checkJump(t, c, 1)
	checkJump(t, c, 0)
	// So are decisions if the model itself fails, or one domain of a level is empty.
	checkDecide(t, impl.NewStore(impl.Model{Domains: []int{0, 63}}), is(1, 3), 0, 0)
	checkDecide(t, levelsOf(impl.Model{Domains: []int{63, 63}}, []int{0, 63}), is(1, 3), 0, 0)
	checkDecide(t, levelsOf(pairwise(2, 63), []int{63, 0}), isNot(0, 3), 0, 0)
	// Propagation alone shows that these decisions are wrong.
	checkDecide(t, impl.NewStore(pairwise(3, 3)), is(0, 1), 0, 0, 0)
	checkDecide(t, impl.NewStore(pairwise(3, 3)), isNot(2, 1), 0, 0, 0)
}

func TestPromise66OrderOfDecisionsDoesNotMatter(t *testing.T) {
	s := newSource(134)
	empty, changed := 0, 0
	for range 600 {
		store := s.store(s.between(1, 10))
		n := len(store.Model.Domains)
		a, b := s.literal(n), s.literal(n)
		ab, ba := store, store
		for _, l := range []impl.Literal{a, b} {
			ab, _ = impl.Decide(ab, l)
		}
		for _, l := range []impl.Literal{b, a} {
			ba, _ = impl.Decide(ba, l)
		}
		one, other := impl.CurrentDomains(ab), impl.CurrentDomains(ba)
		if !slices.Equal(one, other) || len(one) != n || len(ab.Levels) != len(store.Levels)+2 || len(ba.Levels) != len(ab.Levels) {
			t.Fatalf("%v and %v lead to %v from %+v, and in the other order to %v", a, b, one, store, other)
		}
		if one[0] == 0 {
			empty++
		} else if !slices.Equal(one, impl.CurrentDomains(store)) {
			changed++
		}
	}
	if empty < 100 || changed < 50 {
		t.Errorf("domains became empty %d times, and others smaller %d times", empty, changed)
	}
}

func TestPromise68BackjumpTruncatesTheStack(t *testing.T) {
	s := newSource(135)
	for range 200 {
		store := s.store(s.between(1, 12))
		for level := range store.Levels {
			checkJump(t, store, level)
		}
		count := len(store.Levels)
		for _, level := range []int{smallestInt, smallestInt + 1, -count, -2, -1, count, count + 1, 12, 13, 1 << 32, largestInt - 1, largestInt} {
			checkNoJump(t, store, level)
		}
		if t.Failed() {
			return
		}
	}
}

func TestNumberOfLevels(t *testing.T) {
	s := impl.NewStore(impl.Model{Domains: []int{63, 63}})
	// A new store has room for eleven decisions, the last of which makes the domains empty here.
	for i := range 11 {
		l := isNot(i%2, i/2)
		s = checkDecide(t, s, l, decidedOf(s.Model, s.Levels[i], l)...)
	}
	if len(s.Levels) != 12 || !slices.Equal(s.Levels[10], []int{32, 32}) || !slices.Equal(s.Levels[11], []int{0, 0}) {
		t.Fatalf("the levels are %v", s.Levels)
	}
	checkNotDecided(t, s, is(0, 0))
	checkNotDecided(t, s, isNot(1, 5))
	checkNotDecided(t, s, is(2, 0))
	checkJump(t, s, 11)
	checkNoJump(t, s, 12)
	// There is room again after a jump.
	back, _ := impl.Backjump(s, 10)
	checkDecide(t, back, is(1, 5), 32, 32)
	checkJump(t, s, 0)
	all := levelsOf(impl.Model{Domains: []int{63}}, slices.Repeat(lists([]int{0}), 12)...)
	checkNotDecided(t, all, is(0, 0))
	checkJump(t, all, 5)
}

func TestLiteralsThatCannotBeDecided(t *testing.T) {
	source := newSource(136)
	for range 60 {
		s := source.store(source.between(1, 12))
		n := len(s.Model.Domains)
		for _, r := range invalidRemovals(n) {
			checkNotDecided(t, s, is(r.Var, r.Value))
			checkNotDecided(t, s, isNot(r.Var, r.Value))
		}
		checkNotDecided(t, s, is(n, 0))
		checkNotDecided(t, s, isNot(-1, 5))
		checkNotDecided(t, s, is(0, 6))
		checkNotDecided(t, s, isNot(n-1, -1))
	}
}

func TestStoresRejectInvalidStores(t *testing.T) {
	for _, s := range invalidStores() {
		for _, l := range []impl.Literal{is(0, 0), isNot(0, 0), is(-1, 0), is(0, 6)} {
			if got, ok := impl.Decide(s, l); ok || !isZeroStore(got) {
				t.Errorf("Decide(%+v, %v) = %+v, %v", s, l, got, ok)
			}
		}
		for _, level := range []int{-1, 0, 1, len(s.Levels) - 1, len(s.Levels), 12} {
			if got, ok := impl.Backjump(s, level); ok || !isZeroStore(got) {
				t.Errorf("Backjump(%+v, %d) = %+v, %v", s, level, got, ok)
			}
		}
		if got := impl.CurrentDomains(s); len(got) != 0 {
			t.Errorf("CurrentDomains(%+v) = %v", s, got)
		}
	}
}

// roomyStore returns s with spare capacity in all its slices.
func roomyStore(s impl.Store) impl.Store {
	grown := impl.Store{Model: roomy(s.Model), Levels: slices.Grow(slices.Clone(s.Levels), 15)}
	for i, level := range grown.Levels {
		grown.Levels[i] = slices.Grow(slices.Clone(level), 9)
	}
	return grown
}

// snapshotStore returns a copy of s with everything up to the capacity of its slices.
func snapshotStore(s impl.Store) impl.Store {
	full := impl.Store{Model: snapshot(s.Model)}
	for _, level := range s.Levels[:cap(s.Levels)] {
		full.Levels = append(full.Levels, slices.Clone(level[:cap(level)]))
	}
	return full
}

// overwriteStore fills all memory of s, and reports whether two slices of s share memory.
func overwriteStore(s impl.Store) bool {
	constraints := s.Model.Constraints[:cap(s.Model.Constraints)]
	levels := impl.Constraint{Rows: s.Levels}
	shares := overwrite(impl.Model{Domains: s.Model.Domains, Constraints: append(slices.Clone(constraints), levels)})
	clear(constraints)
	return shares
}

// storesFrom calls all functions that return stores.
func storesFrom(s impl.Store, l impl.Literal) []impl.Store {
	decided, _ := impl.Decide(s, l)
	notDecided, _ := impl.Decide(s, is(4, 0))
	back, _ := impl.Backjump(s, 0)
	same, _ := impl.Backjump(s, len(s.Levels)-1)
	notBack, _ := impl.Backjump(s, -1)
	return []impl.Store{impl.NewStore(s.Model), decided, notDecided, back, same, notBack}
}

func TestStoresLeaveTheirArgumentsAlone(t *testing.T) {
	source := newSource(137)
	for range 300 {
		s := roomyStore(source.store(source.between(1, 12)))
		l := source.literal(len(s.Model.Domains))
		before := snapshotStore(s)
		stores := storesFrom(s, l)
		var want []impl.Store
		for _, store := range stores {
			want = append(want, impl.Store{Model: cloneModel(store.Model), Levels: cloneLists(store.Levels)})
		}
		for i, store := range stores {
			if !sameStore(store, want[i]) || overwriteStore(store) {
				t.Fatal("slices of results share memory")
			}
		}
		spoil(t, lists(impl.CurrentDomains(s), impl.CurrentDomains(s)))
		impl.ValidStore(s)
		if !sameStore(before, snapshotStore(s)) {
			t.Fatal("an argument was changed, or shares memory with a result")
		}
		if !slices.EqualFunc(storesFrom(s, l), want, sameStore) {
			t.Fatal("a result is kept from call to call")
		}
	}
}

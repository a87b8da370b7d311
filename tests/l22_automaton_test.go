package tests

import (
	"slices"
	"testing"

	"loop.example/constraintsolver/impl"
)

// pairOf is a pair of states to which the same word leads in two automata. The state -1 stands for none.
type pairOf [2]int

// mix is the set of the words that are in two automata, or only in one of them, or in none, as its function says.
type mix struct {
	automata [2]impl.Automaton
	isFinal  func(inA bool, inB bool) bool
}

// successorOf returns the successor of a state, or -1 if there is none.
func successorOf(a impl.Automaton, state int, v int) int {
	if state < 0 {
		return -1
	}
	return a.Next[state][v]
}

// next returns the successor of a pair.
func (m mix) next(p pairOf, v int) pairOf {
	return pairOf{successorOf(m.automata[0], p[0], v), successorOf(m.automata[1], p[1], v)}
}

// accepts reports whether the words that lead to the pair are in the set.
func (m mix) accepts(p pairOf) bool {
	return m.isFinal(slices.Contains(m.automata[0].Final, p[0]), slices.Contains(m.automata[1].Final, p[1]))
}

// reached lists the pairs to which words lead, and for each of them the first word that does, by length and then by values.
func (m mix) reached() ([]pairOf, [][]int) {
	pairs, words := []pairOf{{0, 0}}, [][]int{nil}
	for i := 0; i < len(pairs); i++ {
		for v := range 6 {
			if p := m.next(pairs[i], v); !slices.Contains(pairs, p) {
				pairs = append(pairs, p)
				words = append(words, append(slices.Clone(words[i]), v))
			}
		}
	}
	return pairs, words
}

// table lists for each pair the indices of its successors.
func (m mix) table(pairs []pairOf) [][]int {
	var rows [][]int
	for _, p := range pairs {
		var row []int
		for v := range 6 {
			row = append(row, slices.Index(pairs, m.next(p, v)))
		}
		rows = append(rows, row)
	}
	return rows
}

// first returns the first word of the set, by length and then by values. It returns false if there is none.
func (m mix) first() ([]int, bool) {
	pairs, words := m.reached()
	i := slices.IndexFunc(pairs, m.accepts)
	if i < 0 {
		return nil, false
	}
	return words[i], true
}

// distinguished reports for each two states whether a word is accepted only from one of them. It marks two states when it
// finds a value that leads to two states which are marked already.
func distinguished(next [][]int, final []bool) [][]bool {
	marked := make([][]bool, len(next))
	for i := range marked {
		marked[i] = make([]bool, len(next))
		for j := range marked[i] {
			marked[i][j] = final[i] != final[j]
		}
	}
	for isNew := true; isNew; {
		isNew = false
		for i := range marked {
			for j := range marked {
				for v := range 6 {
					if !marked[i][j] && marked[next[i][v]][next[j][v]] {
						marked[i][j], isNew = true, true
					}
				}
			}
		}
	}
	return marked
}

// liveStates reports for each state whether some word is accepted from it.
func liveStates(next [][]int, final []bool) []bool {
	live := slices.Clone(final)
	for range next {
		for i, row := range next {
			live[i] = live[i] || slices.ContainsFunc(row, func(to int) bool { return live[to] })
		}
	}
	return live
}

// minimal is the minimal automaton of the set by its definition. It may have more than 8 states.
func (m mix) minimal() impl.Automaton {
	pairs, _ := m.reached()
	next := m.table(pairs)
	var final []bool
	for _, p := range pairs {
		final = append(final, m.accepts(p))
	}
	marked, live := distinguished(next, final), liveStates(next, final)
	var a impl.Automaton
	met := []int{0}
	for k := 0; k < len(met); k++ {
		row := []int{-1, -1, -1, -1, -1, -1}
		for v, to := range next[met[k]] {
			if !live[to] {
				continue
			}
			row[v] = slices.IndexFunc(met, func(i int) bool { return !marked[i][to] })
			if row[v] < 0 {
				row[v] = len(met)
				met = append(met, to)
			}
		}
		a.Next = append(a.Next, row)
		if final[met[k]] {
			a.Final = append(a.Final, k)
		}
	}
	return a
}

// minimalOf, complementOf, intersectionOf and differenceOf are the functions of the chapter by their definition.
func minimalOf(a impl.Automaton) impl.Automaton {
	return mix{[2]impl.Automaton{a, a}, func(inA bool, _ bool) bool { return inA }}.minimal()
}

func complementOf(a impl.Automaton) impl.Automaton {
	return mix{[2]impl.Automaton{a, a}, func(inA bool, _ bool) bool { return !inA }}.minimal()
}

func intersectionOf(a impl.Automaton, b impl.Automaton) impl.Automaton {
	return mix{[2]impl.Automaton{a, b}, func(inA bool, inB bool) bool { return inA && inB }}.minimal()
}

func differenceOf(a impl.Automaton, b impl.Automaton) ([]int, bool) {
	return mix{[2]impl.Automaton{a, b}, func(inA bool, inB bool) bool { return inA != inB }}.first()
}

// isAccepted reports whether a word leads from a state to a final state.
func isAccepted(a impl.Automaton, state int, word []int) bool {
	if len(word) == 0 {
		return slices.Contains(a.Final, state)
	}
	next := a.Next[state][word[0]]
	return next >= 0 && isAccepted(a, next, word[1:])
}

// countFrom returns the number of words of a length that lead from a state to a final state.
func countFrom(a impl.Automaton, state int, length int) int {
	if length == 0 {
		if slices.Contains(a.Final, state) {
			return 1
		}
		return 0
	}
	n := 0
	for _, next := range a.Next[state] {
		if next >= 0 {
			n += countFrom(a, next, length-1)
		}
	}
	return n
}

// wordsUpTo lists all words of at most the given length, by length and then by values.
func wordsUpTo(length int) [][]int {
	var list [][]int
	for n := range length + 1 {
		list = append(list, allAssignments(n)...)
	}
	return list
}

// power returns 6 to the power of n, the number of all words of that length.
func power(n int) int {
	p := 1
	for range n {
		p *= 6
	}
	return p
}

// automatonOf returns the automaton with the given final states and rows.
func automatonOf(final []int, next ...[]int) impl.Automaton {
	return impl.Automaton{Next: next, Final: final}
}

// counter returns an automaton that counts a value modulo n, and accepts if the result is in the list. Other values do not
// count.
func counter(n int, value int, final ...int) impl.Automaton {
	a := impl.Automaton{Final: final}
	for i := range n {
		row := sixes(i)
		row[value] = (i + 1) % n
		a.Next = append(a.Next, row)
	}
	return a
}

// onlyWord returns an automaton that accepts only one word, which has less than 8 values.
func onlyWord(word ...int) impl.Automaton {
	a := impl.Automaton{Final: []int{len(word)}}
	for i, v := range word {
		row := sixes(-1)
		row[v] = i + 1
		a.Next = append(a.Next, row)
	}
	a.Next = append(a.Next, sixes(-1))
	return a
}

// sameAutomaton compares automata; nil and empty slices are equal.
func sameAutomaton(a impl.Automaton, b impl.Automaton) bool {
	return sameLists(a.Next, b.Next) && slices.Equal(a.Final, b.Final)
}

// cloneAutomaton returns an independent copy of an automaton.
func cloneAutomaton(a impl.Automaton) impl.Automaton {
	return impl.Automaton{Next: cloneLists(a.Next), Final: slices.Clone(a.Final)}
}

// smallAutomaton returns a valid automaton with at most n states. Often several values have the same successors.
func (s source) smallAutomaton(n int) impl.Automaton {
	n = s.between(1, n)
	groups, missing := s.list(6, 0, s.between(0, 5)), s.between(0, 5)
	var a impl.Automaton
	for i := range n {
		targets := s.list(6, 0, n-1)
		for k := range targets {
			if s.IntN(10) < missing {
				targets[k] = -1
			}
		}
		var row []int
		for _, group := range groups {
			row = append(row, targets[group])
		}
		a.Next = append(a.Next, row)
		if s.IntN(3) == 0 {
			a.Final = append(a.Final, i)
		}
	}
	return a
}

// blown returns a larger automaton that accepts the same words: it has copies of states, and states from which no word is
// accepted.
func (s source) blown(a impl.Automaton) impl.Automaton {
	originals := others(len(a.Next), nil)
	for len(originals) < 8 && s.IntN(6) > 0 {
		originals = append(originals, s.between(-1, len(a.Next)-1))
	}
	s.Shuffle(len(originals)-1, func(i int, j int) {
		originals[i+1], originals[j+1] = originals[j+1], originals[i+1]
	})
	var b impl.Automaton
	for i, original := range originals {
		var row []int
		for v := range 6 {
			to := successorOf(a, original, v)
			copies := []int{}
			if to < 0 {
				copies = append(copies, -1)
			}
			for j, other := range originals {
				if other == to {
					copies = append(copies, j)
				}
			}
			row = append(row, copies[s.IntN(len(copies))])
		}
		b.Next = append(b.Next, row)
		if slices.Contains(a.Final, original) {
			b.Final = append(b.Final, i)
		}
	}
	return b
}

// automaton returns a valid automaton of one of several kinds.
func (s source) automaton() impl.Automaton {
	switch s.IntN(6) {
	case 0:
		return s.smallAutomaton(8)
	case 1:
		n := s.between(1, 8)
		return impl.Automaton{Next: s.rows(n, 6, -1, n-1), Final: sortedPart(s.Perm(n), s.between(0, n))}
	case 2:
		return onlyWord(s.list(s.between(0, 7), 0, 5)...)
	case 3:
		n := s.between(1, 8)
		return counter(n, s.between(0, 5), sortedPart(s.Perm(n), s.between(0, 2)%n)...)
	}
	return s.blown(s.smallAutomaton(5))
}

// sortedPart returns the first n numbers in ascending order.
func sortedPart(numbers []int, n int) []int {
	part := slices.Clone(numbers[:n])
	slices.Sort(part)
	return part
}

// changed returns an automaton with another successor, or another final state, than a.
func (s source) changed(a impl.Automaton) impl.Automaton {
	b := cloneAutomaton(a)
	n := len(b.Next)
	if s.IntN(2) == 0 {
		b.Next[s.IntN(n)][s.IntN(6)] = s.between(-1, n-1)
		return b
	}
	state := s.IntN(n)
	if i := slices.Index(b.Final, state); i >= 0 {
		b.Final = slices.Delete(b.Final, i, i+1)
	} else {
		b.Final = sortedPart(append(b.Final, state), len(b.Final)+1)
	}
	return b
}

// twoAutomata returns automata that often accept the same words, or nearly the same.
func (s source) twoAutomata() (impl.Automaton, impl.Automaton) {
	a := s.automaton()
	switch s.IntN(5) {
	case 0:
		return a, s.automaton()
	case 1:
		return a, s.changed(a)
	case 2:
		return s.changed(s.blown(a)), s.blown(a)
	}
	return s.blown(a), s.blown(a)
}

// invalidAutomata lists what are no automata.
func invalidAutomata() []impl.Automaton {
	list := []impl.Automaton{{}, {Final: []int{0}}, {Next: [][]int{}}, {Next: slices.Repeat(lists(sixes(0)), 9)}, {Next: slices.Repeat(lists(sixes(0)), 1000)},
		{Next: lists(nil)}, {Next: lists([]int{})}}
	for n := 1; n <= 8; n++ {
		for i := range n {
			for _, to := range []int{-2, n, n + 1, 8, 64, 1 << 32, smallestInt, largestInt} {
				a := automatonOf([]int{0}, slices.Repeat(lists(sixes(0)), n)...)
				a.Next[i] = sixes(0)
				a.Next[i][(n+i)%6] = to
				list = append(list, a)
			}
			for _, length := range []int{0, 1, 5, 7, 12} {
				a := automatonOf([]int{0}, slices.Repeat(lists(sixes(0)), n)...)
				a.Next[i] = make([]int, length)
				list = append(list, a)
			}
		}
		for _, final := range [][]int{{-1}, {n}, {0, n}, {-1, 0}, {0, 0}, {n - 1, n - 1}, {1, 0}, {n - 1, 0, n}, {smallestInt}, {1 << 32}, {largestInt}, make([]int, 9)} {
			list = append(list, automatonOf(final, slices.Repeat(lists(sixes(0)), n)...))
		}
	}
	return append(list, automatonOf([]int{0, 2, 1}, sixes(0), sixes(1), sixes(2)), automatonOf([]int{1, 2, 0}, sixes(0), sixes(1), sixes(2)))
}

// checkAutomaton reports an automaton that is not returned as wanted, for the given arguments.
func checkAutomaton(t *testing.T, got impl.Automaton, ok bool, want impl.Automaton, args ...impl.Automaton) {
	t.Helper()
	if isWanted := len(want.Next) > 0 && len(want.Next) <= 8; !isWanted {
		want = impl.Automaton{}
	}
	if ok != (len(want.Next) > 0) || !sameAutomaton(got, want) {
		t.Errorf("the automaton of %v is %v, %v, want %v", args, got, ok, want)
	}
}

// checkMinimized reports an automaton for which MinimizeAutomaton does not return the wanted one.
func checkMinimized(t *testing.T, a impl.Automaton, want impl.Automaton) {
	t.Helper()
	got, ok := impl.MinimizeAutomaton(a)
	checkAutomaton(t, got, ok, want, a)
}

// checkComplement reports an automaton for which ComplementAutomaton does not return the wanted one.
func checkComplement(t *testing.T, a impl.Automaton, want impl.Automaton) {
	t.Helper()
	got, ok := impl.ComplementAutomaton(a)
	checkAutomaton(t, got, ok, want, a)
}

// checkIntersection reports automata for which IntersectAutomata does not return the wanted one.
func checkIntersection(t *testing.T, a impl.Automaton, b impl.Automaton, want impl.Automaton) {
	t.Helper()
	got, ok := impl.IntersectAutomata(a, b)
	checkAutomaton(t, got, ok, want, a, b)
}

// checkAccepts reports a word that an automaton does not judge as wanted.
func checkAccepts(t *testing.T, a impl.Automaton, word []int, want bool) {
	t.Helper()
	if impl.AutomatonAccepts(a, word) != want {
		t.Errorf("AutomatonAccepts(%v, %v) = %v", a, word, !want)
	}
}

// checkCount reports a length of which an automaton does not accept the wanted number of words.
func checkCount(t *testing.T, a impl.Automaton, length int, want int) {
	t.Helper()
	if got := impl.CountWords(a, length); got != want {
		t.Errorf("CountWords(%v, %d) = %d, want %d", a, length, got, want)
	}
}

// checkDifference reports automata for which ShortestDifference does not return the wanted word.
func checkDifference(t *testing.T, a impl.Automaton, b impl.Automaton, want ...int) {
	t.Helper()
	if word, ok := impl.ShortestDifference(a, b); !ok || !slices.Equal(word, want) {
		t.Errorf("ShortestDifference(%v, %v) = %v, %v, want %v", a, b, word, ok, want)
	}
}

// checkNoDifference reports automata for which ShortestDifference returns a word.
func checkNoDifference(t *testing.T, a impl.Automaton, b impl.Automaton) {
	t.Helper()
	if word, ok := impl.ShortestDifference(a, b); ok || len(word) > 0 {
		t.Errorf("ShortestDifference(%v, %v) = %v, %v", a, b, word, ok)
	}
}

func TestPromise96AutomatonIsARegularConstraint(t *testing.T) {
	s := newSource(185)
	seen := map[bool]int{}
	for range 1000 {
		a := s.automaton()
		if len(a.Final) == 0 {
			continue
		}
		for range 20 {
			word := s.list(s.between(1, 4), 0, 5)
			m := impl.Model{Domains: slices.Repeat([]int{63}, len(word))}
			c := impl.Constraint{Kind: impl.Regular, Vars: others(len(word), nil), Args: a.Final, Rows: a.Next}
			m, ok := impl.WithConstraint(m, c)
			want := len(impl.Violated(m, word)) == 0
			if !ok || !impl.ValidAutomaton(a) || want != isAccepted(a, 0, word) {
				t.Fatalf("ValidAutomaton(%v) = %v, and the constraint accepts %v: %v", a, impl.ValidAutomaton(a), word, want)
			}
			checkAccepts(t, a, word, want)
			seen[want]++
		}
	}
	if seen[true] < 2000 || seen[false] < 2000 {
		t.Errorf("the words were not balanced: %v", seen)
	}
}

func TestValidAutomata(t *testing.T) {
	valid := []impl.Automaton{
		automatonOf(nil, sixes(-1)), automatonOf(nil, sixes(0)), automatonOf([]int{0}, sixes(-1)), automatonOf([]int{0}, edgesOf(0, -1, 0)),
		automatonOf(others(8, nil), slices.Repeat(lists(sixes(7)), 8)...), automatonOf([]int{0, 7}, slices.Repeat(lists(sixes(-1)), 8)...), automatonOf([]int{1}, sixes(0), sixes(0)),
	}
	for _, a := range valid {
		if !impl.ValidAutomaton(a) {
			t.Errorf("ValidAutomaton(%v) = false", a)
		}
	}
	for _, a := range invalidAutomata() {
		if impl.ValidAutomaton(a) {
			t.Errorf("ValidAutomaton(%v) = true", a)
		}
	}
	if impl.MaxWord != 8 || impl.MaxRows != 8 {
		t.Errorf("the limits are %d and %d", impl.MaxWord, impl.MaxRows)
	}
}

func TestAutomatonAcceptsByItsDefinition(t *testing.T) {
	s := newSource(186)
	words := wordsUpTo(4)
	for range 200 {
		a := s.automaton()
		for _, word := range words {
			checkAccepts(t, a, word, isAccepted(a, 0, word))
		}
		for range 50 {
			word := s.list(s.between(5, 8), 0, 5)
			checkAccepts(t, a, word, isAccepted(a, 0, word))
		}
	}
}

func TestAutomatonAcceptsRejectsWhatIsNoWord(t *testing.T) {
	all := automatonOf([]int{0}, sixes(0))
	for n := range 9 {
		checkAccepts(t, all, make([]int, n), true)
		checkAccepts(t, all, slices.Repeat([]int{5}, n), true)
		for i := range n {
			for _, v := range []int{-1, -2, 6, 7, 63, 1 << 32, smallestInt, largestInt} {
				word := make([]int, n)
				word[i] = v
				checkAccepts(t, all, word, false)
				checkAccepts(t, automatonOf(nil, sixes(-1)), word, false)
			}
		}
	}
	for _, n := range []int{9, 10, 100} {
		checkAccepts(t, all, make([]int, n), false)
	}
	for _, a := range invalidAutomata() {
		for n := range 4 {
			checkAccepts(t, a, make([]int, n), false)
		}
	}
}

func TestPromise97ThereAreAtMostAsManyAcceptedWordsAsWords(t *testing.T) {
	s := newSource(187)
	var final, empty int
	for range 1000 {
		a := s.automaton()
		checkCount(t, a, 0, countFrom(a, 0, 0))
		if impl.AutomatonAccepts(a, nil) != (impl.CountWords(a, 0) == 1) {
			t.Fatalf("CountWords(%v, 0) = %d", a, impl.CountWords(a, 0))
		}
		for length := range 9 {
			n := impl.CountWords(a, length)
			if n < 0 || n > power(length) || len(a.Final) == 0 && n > 0 {
				t.Fatalf("CountWords(%v, %d) = %d", a, length, n)
			}
		}
		if len(a.Final) == 0 {
			empty++
		} else if countFrom(a, 0, 0) == 1 {
			final++
		}
	}
	if final < 100 || empty < 50 {
		t.Errorf("%d automata accepted the empty word, and %d had no final states", final, empty)
	}
}

func TestCountWordsByItsDefinition(t *testing.T) {
	s := newSource(188)
	for i := range 300 {
		a := s.automaton()
		for length := range 5 {
			checkCount(t, a, length, countFrom(a, 0, length))
		}
		if i%20 == 0 {
			checkCount(t, a, 8, countFrom(a, 0, 8))
		}
	}
}

func TestCountsOfWords(t *testing.T) {
	for length := range 9 {
		checkCount(t, automatonOf([]int{0}, sixes(0)), length, power(length))
		checkCount(t, automatonOf([]int{0}, edgesOf(0, -1, 0)), length, 1<<length)
		checkCount(t, automatonOf(nil, sixes(0)), length, 0)
		checkCount(t, automatonOf([]int{1}, sixes(0), sixes(1)), length, 0)
		checkCount(t, onlyWord(make([]int, 7)...), length, countFrom(onlyWord(make([]int, 7)...), 0, length))
	}
	checkCount(t, onlyWord(), 0, 1)
	checkCount(t, onlyWord(), 1, 0)
	checkCount(t, onlyWord(1, 2, 3), 3, 1)
	for _, length := range []int{smallestInt, -2, -1, 9, 10, 64, 1 << 32, largestInt} {
		checkCount(t, automatonOf([]int{0}, sixes(0)), length, -1)
	}
	for _, a := range invalidAutomata() {
		for _, length := range []int{-1, 0, 1, 8, 9} {
			checkCount(t, a, length, -1)
		}
	}
}

func TestPromise98MinimalAutomatonAcceptsTheSameWords(t *testing.T) {
	s := newSource(189)
	words := wordsUpTo(3)
	smaller, same := 0, 0
	for range 600 {
		a := s.automaton()
		b, ok := impl.MinimizeAutomaton(a)
		if !ok || !impl.ValidAutomaton(b) || len(b.Next) > len(a.Next) {
			t.Fatalf("MinimizeAutomaton(%v) = %v, %v", a, b, ok)
		}
		checkMinimized(t, b, b)
		for _, word := range words {
			checkAccepts(t, b, word, isAccepted(a, 0, word))
		}
		for length := range 9 {
			checkCount(t, b, length, impl.CountWords(a, length))
		}
		if len(b.Next) < len(a.Next) {
			smaller++
		} else {
			same++
		}
	}
	if smaller < 100 || same < 100 {
		t.Errorf("%d automata were smaller, and %d were not", smaller, same)
	}
}

func TestMinimizeAutomatonByItsDefinition(t *testing.T) {
	s := newSource(190)
	sizes := map[int]int{}
	renumbered := 0
	for range 4000 {
		a := s.automaton()
		want := minimalOf(a)
		checkMinimized(t, a, want)
		sizes[len(want.Next)]++
		if len(want.Next) == len(a.Next) && !sameAutomaton(a, want) {
			renumbered++
		}
	}
	for n := 1; n <= 8; n++ {
		if sizes[n] < 30 {
			t.Errorf("%d minimal automata had %d states", sizes[n], n)
		}
	}
	if renumbered < 100 {
		t.Errorf("only %d automata were renumbered", renumbered)
	}
}

func TestMinimalAutomata(t *testing.T) {
	// States are numbered by the values that lead to them, not in the order of the argument.
	checkMinimized(t, automatonOf([]int{1}, []int{2, -1, -1, -1, -1, 3}, sixes(-1), edgesOf(-1, 1), edgesOf(1)),
		automatonOf([]int{3}, []int{1, -1, -1, -1, -1, 2}, edgesOf(-1, 3), edgesOf(3), sixes(-1)))
	// The breadth comes first: the successors of state 0 are numbered before their own.
	checkMinimized(t, automatonOf([]int{3}, edgesOf(1, 2), edgesOf(3, 1), edgesOf(-1, -1, 3), edgesOf(0)),
		automatonOf([]int{3}, edgesOf(1, 2), edgesOf(3, 1), edgesOf(-1, -1, 3), edgesOf(0)))
	checkMinimized(t, automatonOf([]int{2}, edgesOf(1, 3), edgesOf(2, 1), edgesOf(0), edgesOf(-1, -1, 2)),
		automatonOf([]int{3}, edgesOf(1, 2), edgesOf(3, 1), edgesOf(-1, -1, 3), edgesOf(0)))
	// Equivalent states become one, also if they lead to different states that are equivalent.
	checkMinimized(t, automatonOf([]int{3, 4}, edgesOf(1, 2), edgesOf(3), edgesOf(4), sixes(-1), sixes(-1)),
		automatonOf([]int{2}, edgesOf(1, 1), edgesOf(2), sixes(-1)))
	checkMinimized(t, automatonOf([]int{0, 1}, edgesOf(1), edgesOf(0)), automatonOf([]int{0}, edgesOf(0)))
	// States that differ only by longer words, and others that are as far from the end.
	checkMinimized(t, automatonOf([]int{6}, edgesOf(1, 2), edgesOf(3), edgesOf(4), edgesOf(5), edgesOf(6), edgesOf(6), edgesOf(6)),
		automatonOf([]int{4}, edgesOf(1, 2), edgesOf(2), edgesOf(3), edgesOf(4), edgesOf(4)))
	// Whether a state is final makes the only difference.
	checkMinimized(t, automatonOf([]int{1}, sixes(1), sixes(0)), automatonOf([]int{1}, sixes(1), sixes(0)))
	// States to which no word leads are left out, also if they are final.
	checkMinimized(t, automatonOf([]int{0, 1}, edgesOf(-1, 0), sixes(0)), automatonOf([]int{0}, edgesOf(-1, 0)))
	checkMinimized(t, automatonOf([]int{1}, sixes(2), sixes(0), edgesOf(1)), automatonOf([]int{2}, sixes(1), edgesOf(2), sixes(0)))
	checkMinimized(t, onlyWord(), automatonOf([]int{0}, sixes(-1)))
	checkMinimized(t, onlyWord(3, 1, 4, 1, 5, 0, 2), onlyWord(3, 1, 4, 1, 5, 0, 2))
}

func TestStatesFromWhichNoWordIsAccepted(t *testing.T) {
	// Edges to them are left out, whether they lead on or not, and also if they are many.
	want := automatonOf([]int{1}, edgesOf(1), edgesOf(-1, 0))
	checkMinimized(t, want, want)
	checkMinimized(t, automatonOf([]int{1}, edgesOf(1, 2, 2), edgesOf(2, 0, -1, 2), sixes(2)), want)
	checkMinimized(t, automatonOf([]int{2}, edgesOf(2, 1, 1), sixes(-1), edgesOf(1, 0, -1, 1)), want)
	checkMinimized(t, automatonOf([]int{3}, edgesOf(3, 1, 2), sixes(2), edgesOf(1, 2), edgesOf(2, 0, 2)), want)
	// They may come first in the search, and take no number.
	checkMinimized(t, automatonOf([]int{2}, edgesOf(1, 2), sixes(1), edgesOf(1, 1, 2)), automatonOf([]int{1}, edgesOf(-1, 1), edgesOf(-1, -1, 1)))
	// From state 0 no word is accepted: it is the only one that is left, without successors.
	empty := automatonOf(nil, sixes(-1))
	for _, a := range []impl.Automaton{empty, automatonOf(nil, sixes(0)), automatonOf(nil, sixes(1), sixes(0)), automatonOf([]int{1}, sixes(0), sixes(1)),
		automatonOf([]int{2}, edgesOf(1, 0), edgesOf(0, -1, 1), sixes(0)), automatonOf(nil, slices.Repeat(lists(others(6, nil)), 8)...)} {
		checkMinimized(t, a, empty)
		checkIntersection(t, a, automatonOf([]int{0}, sixes(0)), empty)
		checkComplement(t, a, automatonOf([]int{0}, sixes(0)))
		checkNoDifference(t, a, empty)
	}
	checkComplement(t, automatonOf([]int{0}, sixes(0)), empty)
	checkComplement(t, automatonOf([]int{0, 1}, sixes(1), sixes(0)), empty)
	checkIntersection(t, onlyWord(1, 2), onlyWord(1, 3), empty)
	checkIntersection(t, onlyWord(1), onlyWord(1, 1), empty)
	// A state that is left without words only by the intersection.
	checkIntersection(t, automatonOf([]int{1, 2}, edgesOf(1, 2), edgesOf(0), sixes(2)), automatonOf([]int{1}, edgesOf(1, 2), edgesOf(0), sixes(2)),
		automatonOf([]int{1}, edgesOf(1), edgesOf(0)))
}

func TestPromise99MinimalAutomatonIsANormalForm(t *testing.T) {
	s := newSource(191)
	seen := map[bool]int{}
	for range 2000 {
		a, b := s.twoAutomata()
		x, _ := impl.MinimizeAutomaton(a)
		y, _ := impl.MinimizeAutomaton(b)
		word, different := impl.ShortestDifference(a, b)
		if sameAutomaton(x, y) == different {
			t.Fatalf("ShortestDifference(%v, %v) = %v, %v, but the minimal automata are %v and %v", a, b, word, different, x, y)
		}
		if !different && !sameAutomaton(a, b) {
			seen[false]++
		} else if different {
			seen[true]++
		}
		checkNoDifference(t, a, x)
		checkNoDifference(t, a, a)
	}
	if seen[true] < 300 || seen[false] < 300 {
		t.Errorf("%d pairs were different, and %d accepted the same words", seen[true], seen[false])
	}
}

func TestPromise100ShortestDifferenceIsAcceptedByExactlyOneAutomaton(t *testing.T) {
	s := newSource(192)
	lengths := map[int]int{}
	for range 3000 {
		a, b := s.twoAutomata()
		word, ok := impl.ShortestDifference(a, b)
		want, different := differenceOf(a, b)
		if !different {
			checkNoDifference(t, a, b)
			continue
		}
		checkDifference(t, a, b, want...)
		checkDifference(t, b, a, want...)
		if !ok || len(word) > 8 {
			continue
		}
		lengths[len(word)]++
		if impl.AutomatonAccepts(a, word) == impl.AutomatonAccepts(b, word) {
			t.Fatalf("ShortestDifference(%v, %v) = %v, which both or none accept", a, b, word)
		}
		for length := range word {
			checkCount(t, a, length, impl.CountWords(b, length))
		}
	}
	for length := range 6 {
		if lengths[length] < 15 {
			t.Errorf("only %d words had the length %d", lengths[length], length)
		}
	}
}

func TestShortestDifferenceAmongAllWords(t *testing.T) {
	s := newSource(193)
	words := wordsUpTo(4)
	found := map[int]int{}
	for range 500 {
		a, b := s.twoAutomata()
		i := slices.IndexFunc(words, func(word []int) bool { return isAccepted(a, 0, word) != isAccepted(b, 0, word) })
		word, ok := impl.ShortestDifference(a, b)
		if i < 0 {
			if ok && len(word) <= 4 {
				t.Fatalf("ShortestDifference(%v, %v) = %v", a, b, word)
			}
			continue
		}
		checkDifference(t, a, b, words[i]...)
		found[len(words[i])]++
	}
	for length := range 5 {
		if found[length] < 5 {
			t.Errorf("only %d words had the length %d", found[length], length)
		}
	}
}

func TestShortestDifferences(t *testing.T) {
	all, empty := automatonOf([]int{0}, sixes(0)), automatonOf(nil, sixes(-1))
	// The empty word is a difference, too.
	checkDifference(t, all, empty)
	checkDifference(t, onlyWord(), empty)
	checkDifference(t, onlyWord(), onlyWord(3))
	checkDifference(t, all, onlyWord(), 0)
	// Shorter words come before smaller ones.
	checkDifference(t, onlyWord(0, 0), onlyWord(5), 5)
	checkDifference(t, onlyWord(4, 1), onlyWord(4, 3), 4, 1)
	checkDifference(t, onlyWord(4, 0), onlyWord(3, 5), 3, 5)
	checkDifference(t, onlyWord(1, 2, 3, 4, 5, 0, 1), empty, 1, 2, 3, 4, 5, 0, 1)
	// The state after the difference is met before by another word, but there it makes no difference.
	checkDifference(t, automatonOf([]int{1}, edgesOf(1, 1), edgesOf(2), edgesOf(2)), automatonOf([]int{1}, edgesOf(1, 2), edgesOf(2), edgesOf(2)), 1)
	// There is no difference in spite of other numbers, more states and states from which no word is accepted.
	checkNoDifference(t, automatonOf([]int{1}, edgesOf(1), edgesOf(0)), automatonOf([]int{2, 3}, edgesOf(3, 1), sixes(1), sixes(2), edgesOf(4, 1), edgesOf(3)))
	// Both accept the same words with less than 13 values: those with 6, 13, 20 and so on, and with 6, 14, 22 and so on.
	a, b := counter(7, 0, 6), counter(8, 0, 6)
	checkDifference(t, a, b, make([]int, 13)...)
	// Here only one value can be used.
	for v := range 6 {
		for _, automaton := range []*impl.Automaton{&a, &b} {
			n := len(automaton.Next)
			for i := range automaton.Next {
				automaton.Next[i] = sixes(-1)
				automaton.Next[i][v] = (i + 1) % n
			}
		}
		checkDifference(t, a, b, slices.Repeat([]int{v}, 13)...)
		for length := range 9 {
			checkCount(t, a, length, impl.CountWords(b, length))
		}
	}
}

func TestPromise101ComplementAcceptsExactlyTheOtherWords(t *testing.T) {
	s := newSource(194)
	words := wordsUpTo(3)
	larger, failed := 0, 0
	for range 600 {
		a := s.automaton()
		b, ok := impl.ComplementAutomaton(a)
		if !ok {
			failed++
			continue
		}
		if !impl.ValidAutomaton(b) {
			t.Fatalf("ComplementAutomaton(%v) = %v", a, b)
		}
		for _, word := range words {
			checkAccepts(t, b, word, !impl.AutomatonAccepts(a, word))
		}
		for length := range 9 {
			checkCount(t, b, length, power(length)-impl.CountWords(a, length))
		}
		small, _ := impl.MinimizeAutomaton(a)
		checkComplement(t, b, small)
		if len(b.Next) > len(small.Next) {
			larger++
		}
	}
	if larger < 50 || failed < 10 {
		t.Errorf("%d complements were larger, and %d too large", larger, failed)
	}
}

func TestComplementAutomatonByItsDefinition(t *testing.T) {
	s := newSource(195)
	sizes := map[int]int{}
	for range 2000 {
		a := s.automaton()
		want := complementOf(a)
		checkComplement(t, a, want)
		sizes[len(want.Next)]++
	}
	for n := 1; n <= 9; n++ {
		if sizes[n] < 15 {
			t.Errorf("%d complements had %d states", sizes[n], n)
		}
	}
}

func TestComplements(t *testing.T) {
	all := automatonOf([]int{0}, sixes(0))
	checkComplement(t, onlyWord(), automatonOf([]int{1}, sixes(1), sixes(1)))
	checkComplement(t, automatonOf([]int{1}, sixes(1), sixes(1)), onlyWord())
	checkComplement(t, onlyWord(2), automatonOf([]int{0, 1}, []int{1, 1, 2, 1, 1, 1}, sixes(1), sixes(1)))
	checkComplement(t, counter(8, 3, 0, 5), counter(8, 3, 1, 2, 3, 4, 6, 7))
	checkComplement(t, counter(2, 3), all)
	// The only word with 6 values needs 8 states for the others, and that with 7 values needs 9.
	word := []int{0, 1, 2, 3, 4, 5, 0}
	if b, ok := impl.ComplementAutomaton(onlyWord(word[:6]...)); !ok || len(b.Next) != 8 || len(b.Final) != 7 {
		t.Errorf("ComplementAutomaton of the only word %v = %v, %v", word[:6], b, ok)
	}
	checkComplement(t, onlyWord(word...), impl.Automaton{})
}

func TestPromise102IntersectionAcceptsTheCommonWords(t *testing.T) {
	s := newSource(196)
	words := wordsUpTo(3)
	proper, failed := 0, 0
	for range 600 {
		a, b := s.twoAutomata()
		c, ok := impl.IntersectAutomata(a, b)
		checkIntersection(t, b, a, c)
		small, _ := impl.MinimizeAutomaton(a)
		checkIntersection(t, a, a, small)
		if !ok {
			failed++
			continue
		}
		if !impl.ValidAutomaton(c) {
			t.Fatalf("IntersectAutomata(%v, %v) = %v", a, b, c)
		}
		for _, word := range words {
			checkAccepts(t, c, word, impl.AutomatonAccepts(a, word) && impl.AutomatonAccepts(b, word))
		}
		if len(c.Final) > 0 && !sameAutomaton(c, small) {
			proper++
		}
	}
	if proper < 50 || failed < 10 {
		t.Errorf("%d intersections were different from the first automaton, and %d too large", proper, failed)
	}
}

func TestIntersectAutomataByItsDefinition(t *testing.T) {
	s := newSource(197)
	sizes := map[int]int{}
	for range 3000 {
		a, b := s.twoAutomata()
		if s.IntN(2) == 0 {
			a, b = s.blown(s.smallAutomaton(3)), s.blown(s.smallAutomaton(4))
		}
		want := intersectionOf(a, b)
		checkIntersection(t, a, b, want)
		sizes[len(want.Next)]++
	}
	for n := 1; n <= 9; n++ {
		if sizes[n] < 10 {
			t.Errorf("%d intersections had %d states", sizes[n], n)
		}
	}
}

func TestIntersections(t *testing.T) {
	all := automatonOf([]int{0}, sixes(0))
	checkIntersection(t, all, all, all)
	checkIntersection(t, all, onlyWord(4, 0, 4), onlyWord(4, 0, 4))
	checkIntersection(t, counter(2, 0, 0), onlyWord(), onlyWord())
	checkIntersection(t, counter(2, 0, 1), onlyWord(1, 0, 2), onlyWord(1, 0, 2))
	// Counting two values needs the product of the states, of which 8 are allowed. So does counting one value twice.
	for _, size := range [][3]int{{2, 2, 4}, {2, 3, 6}, {2, 4, 8}, {4, 2, 8}, {3, 3, 9}, {2, 5, 10}, {8, 8, 64}} {
		a, b := counter(size[0], 1, 0), counter(size[1], 4, size[1]-1)
		c, ok := impl.IntersectAutomata(a, b)
		if ok != (size[2] <= 8) || ok && len(c.Next) != size[2] || !ok && !sameAutomaton(c, impl.Automaton{}) {
			t.Errorf("IntersectAutomata(%v, %v) = %v, %v", a, b, c, ok)
		}
	}
	checkIntersection(t, counter(2, 5, 0), counter(3, 5, 0), counter(6, 5, 0))
	checkIntersection(t, counter(2, 5, 0), counter(4, 5, 2), counter(4, 5, 2))
	checkIntersection(t, counter(3, 5, 0), counter(4, 5, 0), impl.Automaton{})
	// What counts is the number of states after minimization.
	checkIntersection(t, counter(8, 5, 0), counter(8, 5, 1), automatonOf(nil, sixes(-1)))
	checkIntersection(t, counter(8, 1, 0, 2, 4, 6), counter(7, 4, 0, 1, 2, 3, 4, 5, 6), counter(2, 1, 0))
}

func TestAutomataRejectInvalidArguments(t *testing.T) {
	valid := automatonOf([]int{0}, sixes(0))
	for _, a := range invalidAutomata() {
		checkMinimized(t, a, impl.Automaton{})
		checkComplement(t, a, impl.Automaton{})
		for _, pair := range [][2]impl.Automaton{{a, a}, {a, valid}, {valid, a}} {
			checkIntersection(t, pair[0], pair[1], impl.Automaton{})
			checkNoDifference(t, pair[0], pair[1])
		}
	}
}

// builtAutomata calls all functions of the chapter that return automata.
func builtAutomata(a impl.Automaton, b impl.Automaton) []impl.Automaton {
	small, _ := impl.MinimizeAutomaton(a)
	rest, _ := impl.ComplementAutomaton(a)
	common, _ := impl.IntersectAutomata(a, b)
	return []impl.Automaton{small, rest, common}
}

// automatonLists calls all functions of the chapter that return automata or words, and lists the memory of their numbers.
func automatonLists(a impl.Automaton, b impl.Automaton) [][]int {
	word, _ := impl.ShortestDifference(a, b)
	list := lists(word)
	for _, built := range builtAutomata(a, b) {
		list = append(append(list, built.Final), built.Next...)
	}
	return list
}

// roomyAutomaton returns a copy of an automaton with spare memory everywhere.
func roomyAutomaton(a impl.Automaton) impl.Automaton {
	b := impl.Automaton{Next: make([][]int, 0, len(a.Next)+3), Final: append(slices.Clone(a.Final), 3, 4)[:len(a.Final)]}
	for _, row := range a.Next {
		b.Next = append(b.Next, append(slices.Clone(row), 7, 8, 9)[:len(row)])
	}
	return b
}

// memoryOf returns a copy of the memory of an automaton, with the spare memory.
func memoryOf(a impl.Automaton) [][]int {
	list := lists(slices.Clone(a.Final[:cap(a.Final)]))
	for _, row := range a.Next[:cap(a.Next)] {
		list = append(list, slices.Clone(row[:cap(row)]))
	}
	return list
}

func TestAutomataLeaveTheirArgumentsAlone(t *testing.T) {
	s := newSource(198)
	for range 500 {
		a, b := s.twoAutomata()
		a, b = roomyAutomaton(a), roomyAutomaton(b)
		word := append(s.list(s.between(0, 8), 0, 5), 7)
		word = word[:len(word)-1]
		aBefore, bBefore, wordBefore := memoryOf(a), memoryOf(b), slices.Clone(word[:len(word)+1])
		want := spoil(t, automatonLists(a, b))
		for _, built := range builtAutomata(a, b) {
			clear(built.Next[:cap(built.Next)])
		}
		impl.ValidAutomaton(a)
		impl.AutomatonAccepts(a, word)
		impl.CountWords(a, len(word))
		if !sameLists(memoryOf(a), aBefore) || !sameLists(memoryOf(b), bBefore) || !slices.Equal(word[:len(word)+1], wordBefore) {
			t.Fatal("an argument was changed, or shares memory with a result")
		}
		if !sameLists(automatonLists(a, b), want) {
			t.Fatal("a result is kept from call to call")
		}
	}
}

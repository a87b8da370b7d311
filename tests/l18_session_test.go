package tests

import (
	"fmt"
	"slices"
	"strings"
	"testing"

	"loop.example/constraintsolver/impl"
)

// simulated is a session by its definition: a model, the domains after each decision, and an objective.
type simulated struct {
	m         impl.Model
	levels    [][]int
	objective []int
}

// simulatedOf returns the session at its beginning.
func simulatedOf(m impl.Model) *simulated {
	return &simulated{m: m, levels: lists(propagated(m)), objective: make([]int, len(m.Domains))}
}

// current returns the current model.
func (s *simulated) current() impl.Model {
	return impl.Model{Domains: s.levels[len(s.levels)-1], Constraints: s.m.Constraints}
}

// okIf returns the answer of a command that succeeds or not.
func okIf(ok bool) string {
	if ok {
		return "ok"
	}
	return "error"
}

// valuesText returns a solution as the document writes it.
func valuesText(x []int) string {
	if x == nil {
		return "none"
	}
	return strings.Trim(fmt.Sprint(x), "[]")
}

// domainsText returns the line of the domains, without its end.
func domainsText(domains []int) string {
	words := strings.Split(modelText(impl.Model{Domains: domains}), "\n")
	return strings.ReplaceAll(strings.Join(words[:len(domains)], " "), "var ", "")
}

// constraintIn returns the constraint that a text stands for, if it is one for n variables.
func constraintIn(text string, n int) (impl.Constraint, bool) {
	m, ok := modelIn(strings.Repeat("var empty\n", n) + text + "\n")
	if !ok || len(m.Domains) != n || len(m.Constraints) != 1 {
		return impl.Constraint{}, false
	}
	return m.Constraints[0], true
}

// answer returns what a line produces.
func (s *simulated) answer(line string) string {
	m := s.current()
	switch line {
	case "domains":
		return domainsText(m.Domains)
	case "solve":
		x, nodes := searched(m)
		return fmt.Sprint(nodes) + " " + valuesText(x)
	case "count":
		return fmt.Sprint(len(solutionsOf(m)))
	case "minimize":
		best, _ := firstBest(solutionsOf(m), s.objective)
		return valuesText(best)
	case "conflict":
		if set, ok := conflictOf(m); ok {
			return listText(set)
		}
		return "none"
	case "proof":
		// A proof has one step per search node.
		if x, nodes := searched(m); x == nil && nodes <= 200 {
			return fmt.Sprint(nodes)
		}
		return "none"
	case "undo":
		if len(s.levels) == 1 {
			return "error"
		}
		s.levels = s.levels[:len(s.levels)-1]
		return "ok"
	}
	return okIf(s.change(line))
}

// change executes a line with something behind the command, and reports whether it succeeds.
func (s *simulated) change(line string) bool {
	n := len(s.m.Domains)
	if text, ok := strings.CutPrefix(line, "post "); ok {
		c, ok := constraintIn(text, n)
		if !ok || len(s.m.Constraints) == 6 {
			return false
		}
		s.m = impl.Model{Domains: s.m.Domains, Constraints: append(slices.Clone(s.m.Constraints), c)}
		s.levels = lists(propagated(s.m))
		return true
	}
	if text, ok := strings.CutPrefix(line, "decide "); ok {
		i := slices.IndexFunc(allLiterals(n), func(l impl.Literal) bool { return literalText(l) == text })
		if i < 0 || len(s.levels) == 12 {
			return false
		}
		s.levels = append(s.levels, decidedOf(s.m, s.current().Domains, allLiterals(n)[i]))
		return true
	}
	if text, ok := strings.CutPrefix(line, "objective "); ok {
		obj := listIn(text)
		if len(obj) != n || listText(obj) != text || slices.Min(obj) < -9 || slices.Max(obj) > 9 {
			return false
		}
		s.objective = obj
		return true
	}
	return false
}

// outputOf is RunSession by its definition, for a valid model.
func outputOf(m impl.Model, sessionLines []string) string {
	s, text := simulatedOf(m), ""
	for _, line := range sessionLines[:min(30, len(sessionLines))] {
		text += s.answer(line) + "\n"
	}
	return text
}

// checkSession reports lines of a session that do not have the wanted answers.
func checkSession(t *testing.T, m impl.Model, sessionLines []string, want ...string) {
	t.Helper()
	all := ""
	for _, line := range want {
		all += line + "\n"
	}
	if got := impl.RunSession(m, sessionLines); got != all {
		t.Errorf("RunSession(%+v, %q) = %q, want %q", m, sessionLines, got, all)
	}
}

// checkDialog reports answers that are not the wanted ones, given the lines and their answers in turn.
func checkDialog(t *testing.T, m impl.Model, dialog ...string) {
	t.Helper()
	var asked, want []string
	for i, line := range dialog {
		if i%2 == 0 {
			asked = append(asked, line)
		} else {
			want = append(want, line)
		}
	}
	checkSession(t, m, asked, want...)
}

// constraintText returns a constraint as the document writes it.
func constraintText(c impl.Constraint) string {
	return strings.TrimSuffix(modelText(impl.Model{Constraints: []impl.Constraint{c}}), "\n")
}

// queries lists the commands that are the whole line and change nothing.
func queries() []string {
	return strings.Fields("domains solve count minimize conflict proof")
}

// line returns a line of a session with n variables. Most of them are in their form.
func (s source) line(n int) string {
	switch s.IntN(12) {
	case 0, 1:
		return "undo"
	case 2:
		return "post " + constraintText(s.constraint(n))
	case 3, 4, 5:
		return "decide " + literalText(s.literal(n))
	case 6:
		return "objective " + listText(s.objective(n))
	case 7:
		found := edits([]string{"decide 0=1", "undo", "objective " + listText(s.objective(n)), "domains"}[s.IntN(4)], " -0123456789=!,o")
		return found[s.IntN(len(found))]
	}
	return queries()[s.IntN(6)]
}

// session returns so many lines.
func (s source) session(n int, count int) []string {
	var list []string
	for range count {
		list = append(list, s.line(n))
	}
	return list
}

// smallModel returns a model with few values, so that sessions with it are fast.
func (s source) smallModel() impl.Model {
	m := s.someModel()
	for i := range m.Domains {
		m.Domains[i] &= s.between(1, 63) | 1<<s.IntN(6)
	}
	m.Constraints = m.Constraints[:min(len(m.Constraints), 3)]
	return m
}

func TestSessionsByTheirDefinition(t *testing.T) {
	s := newSource(140)
	answers := map[string]int{}
	for i := range 120 {
		m := s.smallModel()
		if i%4 == 0 {
			m = s.hardModel()
		}
		lines := s.session(len(m.Domains), s.between(0, 34))
		want := outputOf(m, lines)
		if got := impl.RunSession(m, lines); got != want {
			t.Fatalf("RunSession(%+v, %q) = %q, want %q", m, lines, got, want)
		}
		for i, answer := range strings.SplitAfter(want, "\n") {
			if i < len(lines) {
				answers[strings.Fields(lines[i] + " -")[0]+" "+strings.TrimSpace(answer)]++
			}
		}
	}
	for _, needed := range []string{"undo ok", "undo error", "post ok", "post error", "decide ok", "decide error", "objective ok", "objective error", "minimize none", "conflict none", "conflict -", "proof none", "proof 1"} {
		if answers[needed] < 5 {
			t.Errorf("%q occurred only %d times", needed, answers[needed])
		}
	}
}

func TestSessionOfTheDocument(t *testing.T) {
	m := impl.Model{Domains: []int{7, 7, 7}, Constraints: []impl.Constraint{{Kind: impl.AllDifferent, Vars: []int{0, 1, 2}}}}
	checkDialog(t, m, "domains", "0-2 0-2 0-2", "solve", "3 0 1 2", "count", "6", "objective 1,0,-1", "ok", "minimize", "0 1 2",
		"decide 0=2", "ok", "domains", "2 0-1 0-1", "decide 1!0", "ok", "domains", "2 1 0", "undo", "ok", "domains", "2 0-1 0-1",
		"post linear 1,2 1,1 0", "ok", "domains", "empty empty empty", "solve", "1 none", "conflict", "-", "proof", "1",
		"count", "0", "undo", "error", "post alldifferent 0,0 - 0", "error", "decide 0=9", "error", "minimize", "none", "help", "error")
}

func TestCommandsWithTheCurrentModel(t *testing.T) {
	m := impl.Model{Domains: []int{31, 3, 3}, Constraints: pairwise(3, 3).Constraints}
	checkDialog(t, m, "domains", "0-4 0-1 0-1", "solve", "5 2 0 1", "count", "6", "minimize", "2 0 1", "conflict", "none", "proof", "none",
		// Search now finds nothing, and needs all the constraints for that.
		"decide 0!2", "ok", "decide 0!3", "ok", "decide 0!4", "ok", "domains", "0-1 0-1 0-1", "solve", "3 none", "count", "0",
		"minimize", "none", "conflict", "0,1,2", "proof", "3",
		"undo", "ok", "solve", "5 4 0 1", "count", "2", "proof", "none", "conflict", "none",
		// The objective is one for all domains, and is kept.
		"objective 0,-1,0", "ok", "minimize", "4 1 0", "undo", "ok", "minimize", "3 1 0")
	// A proof may be too long.
	checkDialog(t, odd([]int{3, 2, 2}, 22), "solve", "200 none", "proof", "200", "conflict", "0,1", "count", "0")
	checkDialog(t, odd([]int{3, 1, 3}, 22), "solve", "201 none", "proof", "none", "decide 0!0", "ok", "proof", "158")
	// Solutions are counted without a limit.
	checkDialog(t, impl.Model{Domains: []int{63, 63, 63, 63}}, "count", "1296", "decide 2!3", "ok", "count", "1080", "solve", "5 0 0 0 0")
	// Without constraints and with a single variable.
	checkDialog(t, impl.Model{Domains: []int{42}}, "domains", "1,3,5", "solve", "2 1", "count", "3", "minimize", "1", "conflict", "none",
		"objective -9", "ok", "minimize", "5", "decide 0!5", "ok", "minimize", "3", "domains", "1,3", "decide 0=3", "ok", "solve", "1 3")
	checkDialog(t, impl.Model{Domains: []int{63, 0}}, "domains", "empty empty", "solve", "1 none", "count", "0", "minimize", "none", "conflict", "-", "proof", "1")
}

func TestDecisionsOfASessionThatMakeTheDomainsEmpty(t *testing.T) {
	checkDialog(t, pairwise(2, 3), "decide 0=5", "ok", "domains", "empty empty", "solve", "1 none", "count", "0", "minimize", "none",
		"conflict", "-", "proof", "1", "decide 1!0", "ok", "domains", "empty empty", "undo", "ok", "domains", "empty empty",
		"undo", "ok", "domains", "0-1 0-1", "undo", "error", "domains", "0-1 0-1", "decide 1=0", "ok", "decide 0=0", "ok",
		"domains", "empty empty", "undo", "ok", "domains", "1 0", "solve", "1 1 0")
}

func TestPostingDiscardsAllDecisions(t *testing.T) {
	m := impl.Model{Domains: []int{7, 7}}
	checkDialog(t, m, "objective 1,1", "ok", "decide 0=2", "ok", "decide 1!0", "ok", "domains", "2 1-2", "post alldifferent 0,1 - 0", "ok",
		// The domains are those of the model, and the objective is kept.
		"domains", "0-2 0-2", "undo", "error", "minimize", "0 1", "decide 0=2", "ok", "domains", "2 0-1",
		// Constraints that cannot be added change nothing.
		"post alldifferent 0,2 - 0", "error", "post help", "error", "domains", "2 0-1", "undo", "ok", "domains", "0-2 0-2",
		"post linear 0 -1 -1", "ok", "domains", "1-2 0-2", "count", "4", "post table 0,1 - 0 2,2 1,0", "ok", "domains", "1-2 0,2", "count", "1", "post linear 0 1 1", "ok", "domains", "1 0", "conflict", "none",
		"post linear 0,1 1,1 0", "ok", "domains", "empty empty", "undo", "error")
	// There is no room for a seventh constraint.
	var dialog []string
	for i := range 7 {
		dialog = append(dialog, "post linear 0 1 "+fmt.Sprint(9-i), okIf(i < 6), "decide 1=2", "ok")
	}
	checkDialog(t, m, append(dialog, "domains", "0-2 2", "undo", "ok", "domains", "0-2 2", "undo", "ok", "domains", "0-2 0-2", "undo", "error")...)
}

func TestConflictsOfASessionHaveTheNumbersOfTheConstraints(t *testing.T) {
	differ := pairwise(3, 7).Constraints
	m := impl.Model{Domains: []int{7, 7, 7}, Constraints: []impl.Constraint{always(), differ[0], always(), differ[1], differ[2]}}
	checkDialog(t, m, "decide 0!0", "ok", "decide 1!0", "ok", "conflict", "none", "decide 2!0", "ok", "domains", "1-2 1-2 1-2", "conflict", "1,3,4",
		// Without values nothing else is needed for a conflict.
		"decide 2=0", "ok", "conflict", "-", "undo", "ok", "conflict", "1,3,4", "undo", "ok", "conflict", "none",
		// The additional constraint sees what the others do not.
		"post alldifferent 0,2,1 - 0", "ok", "conflict", "none", "decide 0!0", "ok", "decide 1!0", "ok", "domains", "1-2 1-2 0")
	// The current domains are propagated, so that constraints that propagation refutes leave an empty conflict.
	checkDialog(t, impl.Model{Domains: []int{7, 7}, Constraints: []impl.Constraint{fixing(0, 1), fixing(0, 2)}}, "conflict", "-", "domains", "empty empty")
	checkDialog(t, impl.Model{Domains: []int{7, 7}, Constraints: []impl.Constraint{fixing(0, 1)}}, "conflict", "none", "post table 0 - 0 2", "ok", "conflict", "-", "proof", "1")
}

func TestUndoingMoreThanThereIs(t *testing.T) {
	m := impl.Model{Domains: []int{63, 63}}
	checkDialog(t, m, "undo", "error", "domains", "0-5 0-5", "undo", "error", "decide 0=1", "ok", "undo", "ok", "undo", "error", "undo", "error", "domains", "0-5 0-5")
	// The limit of a store is one of twelve levels, which leaves room for eleven decisions.
	var dialog []string
	for i := range 13 {
		dialog = append(dialog, fmt.Sprintf("decide 1!%d", i%5), okIf(i < 11))
	}
	for i := range 13 {
		dialog = append(dialog, "undo", okIf(i < 11))
	}
	checkDialog(t, m, append(dialog, "domains", "0-5 0-5")...)
	checkDialog(t, m, append(dialog[:24], "domains", "0-5 5", "undo", "ok", "decide 1=5", "ok", "domains", "0-5 5", "decide 1=5", "error")...)
}

func TestLinesThatAreNotInTheirForm(t *testing.T) {
	m := impl.Model{Domains: []int{7, 7}}
	for _, line := range []string{
		"", " ", "\n", "-", "help", "quit", "ok", "error", "DOMAINS", "Solve", "domains ", " domains", "domains\n", "domains\r", "domains\x00", "domain",
		"domainss", "solve 1", "solve\tx", "count -", "minimize 1,0", "conflict -", "proof 0", "undo 1", "undo ", "undo undo", "domains domains",
		"domains\nsolve", "post", "post ", "decide", "decide ", "objective", "objective ", "post domains", "decide undo", "objective objective 1,0",
		"objective -", "objective 1", "objective 1,2,3", "objective 10,0", "objective 0,-10", "objective +1,0", "objective 01,0", "objective 1, 0",
		"objective  1,0", "objective 1,0 ", "objective 1,,0", "objective ,1", "objective 1,", "objective -0,0", "objective --1,0", "objective 1 0",
		"objective 1,a", "objective 1,0\n", "objective 1,18446744073709551616", "objective1,0", "Objective 1,0",
		"decide empty", "decide 0=1 1=1", "decide 0=1 ", "decide  0=1", "decide 0 =1", "decide 0= 1", "decide 0==1", "decide 0!=1", "decide 0=!1",
		"decide 0!!1", "decide 01", "decide 0", "decide =1", "decide 0=", "decide 0!", "decide 2=0", "decide -1=0", "decide 0=6", "decide 0!6", "decide 0!-1",
		"decide 00=1", "decide 0=01", "decide +0=1", "decide 0=+1", "decide -0=1", "decide 0=-0", "decide 0=1\n", "decide 0,1=1", "decide 0=1,2", "decide0=1",
		"decide 18446744073709551616=1", "decide 4=0", "decide 0<1", "Decide 0=1",
		"post -", "post help", "post alldifferent", "post alldifferent ", "post alldifferent 0,1", "post alldifferent 0,1 -", "post alldifferent 0,1 - ",
		"post alldifferent 0,1 - 0 ", "post alldifferent 0,1 - 0 -", "post alldifferent 0,1  - 0", "post  alldifferent 0,1 - 0", "post alldifferent 0,1 - 00",
		"post alldifferent 0,1 - -0", "post alldifferent 0,1 - 1", "post alldifferent - - 0", "post alldifferent 0,0 - 0", "post alldifferent 2 - 0",
		"post alldifferent 0,1 0 0", "post alldifferent 0, 1 - 0", "post alldifferent 00,1 - 0", "post Alldifferent 0,1 - 0", "post all 0,1 - 0",
		"post 3 0,1 - 0", "post var 0-2", "post alldifferent 0,1 - 0\n", "post alldifferent 0,1 - 0\nalldifferent 0,1 - 0", "postalldifferent 0,1 - 0",
		"post linear 0 1 1000", "post linear 0 10 0", "post linear 0 1 x", "post linear 0 1,1 0", "post linear 0,1 1 0", "post table 0,1 - 0", "post table 0,1 - 0 1",
		"post table 0,1 - 0 1,6", "post table 0 - 0 1 ", "post table 0 - 0  1", "post table 0 - 0 1 -", "post regular 0 0 0 0,0,0,0,0", "post circuit 0,1 - 0 0,1",
		"post post circuit 0,1 - 0", "Post circuit 0,1 - 0", "alldifferent 0,1 - 0", "0=1", "1,0",
	} {
		checkDialog(t, m, "decide 0!0", "ok", line, "error", "domains", "1-2 0-2", "minimize", "1 0", "undo", "ok", "undo", "error")
	}
	// The same things in their form, at the limits.
	for _, line := range []string{
		"objective 9,-9", "objective 0,0", "decide 1=5", "decide 0!5", "decide 1!0", "post alldifferent 0,1 - 0", "post linear 1,0 -9,9 -999", "post linear 0 1 999",
		"post table 0,1 - 0 1,5", "post regular 0 - 0 0,0,0,0,0,-1", "post circuit 1,0 - 0", "post cumulative 0 9,9 9", "post count 1 5 4", "post element 0,1 5 0",
		"post notequal 1,0 -9 0",
	} {
		checkDialog(t, m, line, "ok")
	}
}

func TestEditedLines(t *testing.T) {
	m := impl.Model{Domains: []int{7, 7}}
	accepted := 0
	for _, base := range []string{"decide 0=1", "objective 1,-1", "post linear 0,1 1,-1 3", "post table 1 - 0 2 0", "post circuit 0,1 - 0"} {
		checkDialog(t, m, base, "ok")
		for _, line := range edits(base, " -,0129=!x\n") {
			lines := []string{"decide 1!0", line, "domains", "minimize", "undo"}
			want := outputOf(m, lines)
			if got := impl.RunSession(m, lines); got != want {
				t.Fatalf("RunSession(%+v, %q) = %q, want %q", m, lines, got, want)
			}
			if strings.HasPrefix(want, "ok\nok\n") {
				accepted++
			}
		}
	}
	if accepted < 20 {
		t.Errorf("only %d lines were in their form", accepted)
	}
	var all []byte
	for b := range 256 {
		all = append(all, byte(b))
	}
	for _, base := range append(queries(), "undo") {
		for _, line := range edits(base, string(all)) {
			checkSession(t, m, []string{line}, "error")
		}
	}
}

func TestPromise69OutputDependsOnlyOnPrecedingLines(t *testing.T) {
	s := newSource(141)
	for range 60 {
		m := s.smallModel()
		lines := s.session(len(m.Domains), 33)
		whole := impl.RunSession(m, lines)
		if count := strings.Count(whole, "\n"); count != 30 || !strings.HasSuffix(whole, "\n") {
			t.Fatalf("RunSession(%+v, %q) has %d lines: %q", m, lines, count, whole)
		}
		for i := range lines {
			got := impl.RunSession(m, lines[:i])
			if !strings.HasPrefix(whole, got) || strings.Count(got, "\n") != min(i, 30) || i > 0 && !strings.HasSuffix(got, "\n") {
				t.Fatalf("RunSession(%+v, %q) = %q, but %q with all of %q", m, lines[:i], got, whole, lines)
			}
		}
		// Other lines behind the last one that is executed change nothing.
		other := append(slices.Clone(lines[:30]), s.session(len(m.Domains), 5)...)
		if got := impl.RunSession(m, other); got != whole {
			t.Fatalf("RunSession(%+v, %q) = %q, want %q", m, other, got, whole)
		}
	}
}

func TestNumberOfLines(t *testing.T) {
	if impl.MaxLines != 30 {
		t.Errorf("MaxLines = %d", impl.MaxLines)
	}
	m := impl.Model{Domains: []int{63}}
	for _, count := range []int{0, 1, 2, 29, 30, 31, 32, 60, 1000} {
		for _, line := range []string{"count", "help", "", "decide 0=6"} {
			want := "error"
			if line == "count" {
				want = "6"
			}
			checkSession(t, m, slices.Repeat([]string{line}, count), slices.Repeat([]string{want}, min(count, 30))...)
		}
	}
	// Line 30 is executed, and line 31 is not.
	checkSession(t, m, append(slices.Repeat([]string{"undo"}, 29), "decide 0=1", "domains"), append(slices.Repeat([]string{"error"}, 29), "ok")...)
	checkSession(t, m, append(slices.Repeat([]string{"undo"}, 28), "decide 0=1", "domains"), append(slices.Repeat([]string{"error"}, 28), "ok", "1")...)
}

func TestPromise70UndoRestoresTheDomains(t *testing.T) {
	s := newSource(142)
	changed, empty := 0, 0
	for range 400 {
		m := s.easyModel()
		n := len(m.Domains)
		var lines []string
		for range s.between(0, 10) * s.IntN(2) {
			lines = append(lines, "decide "+literalText(s.literal(n)))
		}
		lines = append(lines, "domains", "decide "+literalText(s.literal(n)), "domains", "undo", "domains")
		answers := strings.Split(impl.RunSession(m, lines), "\n")
		if len(answers) != len(lines)+1 {
			t.Fatalf("RunSession(%+v, %q) = %q", m, lines, answers)
		}
		last := answers[len(lines)-5 : len(lines)]
		if last[0] != last[4] || last[1] != "ok" || last[3] != "ok" {
			t.Fatalf("RunSession(%+v, %q) = %q", m, lines, answers)
		}
		switch {
		case strings.HasPrefix(last[2], "empty") && !strings.HasPrefix(last[0], "empty"):
			empty++
		case last[2] != last[0]:
			changed++
		}
	}
	if changed < 30 || empty < 30 {
		t.Errorf("the domains became empty %d times, and smaller %d times", empty, changed)
	}
}

func TestSessionsRejectInvalidModels(t *testing.T) {
	for _, m := range invalidModels() {
		for _, lines := range [][]string{nil, {"domains"}, {"post alldifferent 0 - 0", "count"}, slices.Repeat([]string{"solve"}, 31)} {
			checkSession(t, m, lines, "invalid")
		}
	}
}

func TestSessionsLeaveTheirArgumentsAlone(t *testing.T) {
	s := newSource(143)
	for range 60 {
		m := roomy(s.smallModel())
		lines := s.session(len(m.Domains), 35)
		before, beforeLines := snapshot(m), slices.Clone(lines)
		want := impl.RunSession(m, lines[:32])
		if !sameModel(before, snapshot(m)) || !slices.Equal(lines, beforeLines) {
			t.Fatal("an argument was changed")
		}
		if impl.RunSession(m, lines[:32]) != want {
			t.Fatal("a state is kept from call to call")
		}
	}
}

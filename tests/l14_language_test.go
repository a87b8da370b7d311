package tests

import (
	"fmt"
	"hash/crc32"
	"maps"
	"slices"
	"strconv"
	"strings"
	"sync"
	"testing"

	"loop.example/constraintsolver/impl"
)

// keywordOf returns the keyword of a kind.
func keywordOf(kind int) string {
	return strings.Fields("- linear notequal alldifferent element table count cumulative regular circuit")[kind]
}

// listText returns a list of numbers as the document writes it.
func listText(numbers []int) string {
	if len(numbers) == 0 {
		return "-"
	}
	return strings.ReplaceAll(strings.Trim(fmt.Sprint(numbers), "[]"), " ", ",")
}

// domainsByText returns the domain of each text form. It is shared, as it is needed often.
var domainsByText = sync.OnceValue(encodings)

// modelText is EncodeModel by its definition, for a valid model.
func modelText(m impl.Model) string {
	text := ""
	for _, d := range m.Domains {
		for s, other := range domainsByText() {
			if d == other {
				text += fmt.Sprintf("var %s\n", s)
			}
		}
	}
	for _, c := range m.Constraints {
		text += fmt.Sprintf("%s %s %s %d", keywordOf(c.Kind), listText(c.Vars), listText(c.Args), c.Bound)
		for _, row := range c.Rows {
			text += " " + listText(row)
		}
		text += "\n"
	}
	return text
}

// listIn returns the numbers in a list, and reads everything that is no number as an absurd one.
func listIn(text string) []int {
	if text == "-" {
		return nil
	}
	var numbers []int
	for _, part := range strings.Split(text, ",") {
		v, err := strconv.Atoi(part)
		if err != nil {
			v = smallestInt
		}
		numbers = append(numbers, v)
	}
	return numbers
}

// modelIn is DecodeModel by its definition: it reads the words of a text and accepts what is then written as the same text.
func modelIn(text string) (impl.Model, bool) {
	var m impl.Model
	for _, line := range strings.Split(text, "\n") {
		words := strings.Split(line, " ")
		if len(words) == 2 && words[0] == "var" {
			d, ok := domainsByText()[words[1]]
			if !ok {
				return impl.Model{}, false
			}
			m.Domains = append(m.Domains, d)
		}
		for kind := 1; kind <= 9 && len(words) >= 4; kind++ {
			if words[0] != keywordOf(kind) {
				continue
			}
			c := impl.Constraint{Kind: kind, Vars: listIn(words[1]), Args: listIn(words[2]), Bound: listIn(words[3] + ",0")[0]}
			for _, word := range words[4:] {
				c.Rows = append(c.Rows, listIn(word))
			}
			m.Constraints = append(m.Constraints, c)
		}
	}
	if !impl.ValidModel(m) || modelText(m) != text {
		return impl.Model{}, false
	}
	return m, true
}

// literalText returns a literal as the document writes it.
func literalText(l impl.Literal) string {
	if l.Not {
		return fmt.Sprintf("%d!%d", l.Var, l.Value)
	}
	return fmt.Sprintf("%d=%d", l.Var, l.Value)
}

// stepsText returns the lines of a proof behind the first one.
func stepsText(proof [][]impl.Literal) string {
	text := ""
	for _, step := range proof {
		var words []string
		for _, l := range step {
			words = append(words, literalText(l))
		}
		if len(step) == 0 {
			words = []string{"empty"}
		}
		text += strings.Join(words, " ") + "\n"
	}
	return text
}

// summed returns a text behind a line with its checksum.
func summed(text string) string {
	return fmt.Sprintf("%d\n%s", crc32.ChecksumIEEE([]byte(text)), text)
}

// stepsIn is DecodeProof by its definition, for the lines behind the first one: it finds literals by their texts.
func stepsIn(n int, text string) ([][]impl.Literal, bool) {
	literals := map[string]impl.Literal{}
	for _, l := range allLiterals(n) {
		literals[literalText(l)] = l
	}
	var proof [][]impl.Literal
	for _, line := range strings.SplitAfter(text, "\n") {
		if line == "" {
			continue
		}
		var step []impl.Literal
		for _, word := range strings.Split(strings.TrimSuffix(line, "\n"), " ") {
			if l, ok := literals[word]; ok {
				step = append(step, l)
			}
		}
		if !impl.ValidClause(step, n) {
			return nil, false
		}
		proof = append(proof, step)
	}
	return proof, len(proof) <= 200 && stepsText(proof) == text
}

// edits lists the texts that differ from s in one byte that is added, dropped or replaced by one of the given ones.
func edits(s string, bytes string) []string {
	found := map[string]bool{}
	for i := range len(s) + 1 {
		for j := range len(bytes) {
			found[s[:i]+bytes[j:j+1]+s[i:]] = true
			if i < len(s) {
				found[s[:i]+bytes[j:j+1]+s[i+1:]] = true
			}
		}
		if i < len(s) {
			found[s[:i]+s[i+1:]] = true
		}
	}
	delete(found, s)
	return slices.Sorted(maps.Keys(found))
}

// lineEdits lists the texts in which a line of s is dropped, repeated, exchanged with the next one, or broken.
func lineEdits(s string) []string {
	lines := strings.SplitAfter(s, "\n")
	list := []string{strings.TrimSuffix(s, "\n"), s + s, "\n" + s, s + "\n", " " + s, s + " ", strings.ReplaceAll(s, "\n", "\r\n"), strings.ToUpper(s)}
	for i, line := range lines {
		before, after := strings.Join(lines[:i], ""), strings.Join(lines[i+1:], "")
		list = append(list, before+after, before+line+line+after, before+" "+line+after, before+strings.TrimSuffix(line, "\n")+" \n"+after)
		if i > 0 {
			list = append(list, strings.Join(lines[:i-1], "")+line+lines[i-1]+after)
		}
	}
	return list
}

// checkEncodeModel reports a model whose text is not the wanted one, or from whose text it is not decoded.
func checkEncodeModel(t *testing.T, m impl.Model, want string) {
	t.Helper()
	if got := impl.EncodeModel(m); got != want {
		t.Fatalf("EncodeModel(%+v) = %q, want %q", m, got, want)
	}
	if got, ok := impl.DecodeModel(want); !ok || !sameModel(got, m) {
		t.Fatalf("DecodeModel(%q) = %+v, %v, want %+v", want, got, ok, m)
	}
}

// checkDecodeModel compares DecodeModel with its definition, and reports whether it accepts the text.
func checkDecodeModel(t *testing.T, s string) bool {
	t.Helper()
	want, wantOK := modelIn(s)
	got, ok := impl.DecodeModel(s)
	if ok != wantOK || !sameModel(got, want) {
		t.Fatalf("DecodeModel(%q) = %+v, %v, want %+v, %v", s, got, ok, want, wantOK)
	}
	if ok && impl.EncodeModel(got) != s {
		t.Fatalf("DecodeModel(%q) = %+v, whose text is %q", s, got, impl.EncodeModel(got))
	}
	return ok
}

// checkNoModel reports a text that DecodeModel accepts.
func checkNoModel(t *testing.T, s string) {
	t.Helper()
	if got, ok := impl.DecodeModel(s); ok || !isZeroModel(got) {
		t.Errorf("DecodeModel(%.80q) = %+v, %v", s, got, ok)
	}
}

// checkEncodeProof reports a proof whose text is not the wanted one, or from whose text it is not decoded.
func checkEncodeProof(t *testing.T, n int, proof [][]impl.Literal, want string) {
	t.Helper()
	if got := impl.EncodeProof(n, proof); got != want {
		t.Fatalf("EncodeProof(%d, %v) = %q, want %q", n, proof, got, want)
	}
	if got, ok := impl.DecodeProof(n, want); !ok || !sameProof(got, proof) {
		t.Fatalf("DecodeProof(%d, %q) = %v, %v, want %v", n, want, got, ok, proof)
	}
}

// checkDecodeSteps compares DecodeProof, for lines with their checksum, with its definition, and reports whether it
// accepts them.
func checkDecodeSteps(t *testing.T, n int, lines string) bool {
	t.Helper()
	want, wantOK := stepsIn(n, lines)
	got, ok := impl.DecodeProof(n, summed(lines))
	if ok != wantOK || ok && !sameProof(got, want) || !ok && len(got) > 0 {
		t.Fatalf("DecodeProof(%d, %q) = %v, %v, want %v, %v", n, summed(lines), got, ok, want, wantOK)
	}
	if ok && impl.EncodeProof(n, got) != summed(lines) {
		t.Fatalf("DecodeProof(%d, %q) = %v, whose text is %q", n, summed(lines), got, impl.EncodeProof(n, got))
	}
	return ok
}

// checkNoSteps reports a text that DecodeProof accepts.
func checkNoSteps(t *testing.T, n int, s string) {
	t.Helper()
	if got, ok := impl.DecodeProof(n, s); ok || len(got) > 0 {
		t.Errorf("DecodeProof(%d, %.80q) = %v, %v", n, s, got, ok)
	}
}

// checkNotEncoded reports a proof that EncodeProof accepts.
func checkNotEncoded(t *testing.T, n int, proof [][]impl.Literal) {
	t.Helper()
	if got := impl.EncodeProof(n, proof); got != "" {
		t.Errorf("EncodeProof(%d, %v) = %q", n, proof, got)
	}
}

func TestPromise52DecodingAModelInvertsEncoding(t *testing.T) {
	s := newSource(100)
	kinds, lengths := map[int]int{}, map[int]int{}
	for range 3000 {
		m := s.model()
		checkEncodeModel(t, m, modelText(m))
		lengths[len(m.Constraints)]++
		for _, c := range m.Constraints {
			kinds[c.Kind]++
		}
	}
	if len(kinds) != 9 || len(lengths) != 7 {
		t.Errorf("the models had constraints of the kinds %v and were of the lengths %v", kinds, lengths)
	}
	for _, m := range invalidModels() {
		if got := impl.EncodeModel(m); got != "" {
			t.Errorf("EncodeModel(%+v) = %q", m, got)
		}
	}
}

// of returns a model of three variables with the values 0 to 2 and one constraint.
func of(c impl.Constraint) impl.Model {
	return impl.Model{Domains: []int{7, 7, 7}, Constraints: []impl.Constraint{c}}
}

func TestTextsOfEveryKind(t *testing.T) {
	for i, want := range []string{
		"linear 1,0 1,-1 3", "notequal 1,0 2 0", "alldifferent 1,0 - 0", "element 1,0 3,1 0", "table 1,0 - 0 2,0 2,0",
		"count 1,0 1 2", "cumulative 1,0 2,3,1,1 1", "regular 1,0 1 0 1,1,1,1,1,1 -1,-1,-1,-1,-1,-1", "circuit 1,0 - 0",
	} {
		checkEncodeModel(t, of(base(i+1)), "var 0-2\nvar 0-2\nvar 0-2\n"+want+"\n")
	}
	all := impl.Model{Domains: []int{0, 63, 45, 16}, Constraints: bases()[3:]}
	checkEncodeModel(t, all, "var empty\nvar 0-5\nvar 0,2-3,5\nvar 4\nelement 1,0 3,1 0\ntable 1,0 - 0 2,0 2,0\ncount 1,0 1 2\n"+
		"cumulative 1,0 2,3,1,1 1\nregular 1,0 1 0 1,1,1,1,1,1 -1,-1,-1,-1,-1,-1\ncircuit 1,0 - 0\n")
}

func TestTextsOfEmptyLists(t *testing.T) {
	checkEncodeModel(t, impl.Model{Domains: []int{0}}, "var empty\n")
	checkEncodeModel(t, impl.Model{Domains: []int{33, 2}, Constraints: []impl.Constraint{}}, "var 0,5\nvar 1\n")
	checkEncodeModel(t, of(impl.Constraint{Kind: impl.AllDifferent, Vars: []int{2}, Args: []int{}, Rows: [][]int{}}), "var 0-2\nvar 0-2\nvar 0-2\nalldifferent 2 - 0\n")
	// An automaton may have no final states.
	checkEncodeModel(t, of(impl.Constraint{Kind: impl.Regular, Vars: []int{0}, Rows: [][]int{sixes(-1)}}), "var 0-2\nvar 0-2\nvar 0-2\nregular 0 - 0 -1,-1,-1,-1,-1,-1\n")
	// A list of one negative number also begins with a minus sign.
	checkEncodeModel(t, of(impl.Constraint{Kind: impl.Linear, Vars: []int{2}, Args: []int{-9}, Bound: -999}), "var 0-2\nvar 0-2\nvar 0-2\nlinear 2 -9 -999\n")
	for _, bad := range []string{
		"alldifferent - - 0", "alldifferent 0  0", "alldifferent 0 0", "alldifferent 0 -- 0", "alldifferent 0 -,- 0", "alldifferent 0 - 0 -",
		"alldifferent 0 - -", "alldifferent  - 0", "linear 0 - 0", "linear 0 -0 0", "linear 0 -,1 0", "linear 0 1,- 0", "table 0 - 0 -", "table 0 - 0",
		"table 0 - 0 1 -", "table 0 - 0  1", "table 0 - 0 1 ", "regular 0 - 0", "regular 0 - 0 -", "count 0 - 0",
	} {
		checkNoModel(t, "var 0\n"+bad+"\n")
	}
}

func TestLimitsOfModelTexts(t *testing.T) {
	five, eight := strings.Repeat("var 0-5\n", 5), strings.Repeat(" 5", 8)
	checkNoModel(t, "")
	for n := 1; n <= 5; n++ {
		if _, ok := impl.DecodeModel(five[:8*n]); ok != (n <= 4) {
			t.Errorf("DecodeModel of %d variables returns %v", n, ok)
		}
	}
	for n := 0; n <= 8; n++ {
		if m, ok := impl.DecodeModel("var 0\n" + strings.Repeat("circuit 0 - 0\n", n)); ok != (n <= 6) || ok && len(m.Constraints) != n {
			t.Errorf("DecodeModel of %d constraints = %+v, %v", n, m, ok)
		}
	}
	for line, want := range map[string]bool{
		"linear 0 9 999": true, "linear 0 -9 -999": true, "linear 0 0 1000": false, "linear 0 0 -1000": false, "linear 0 10 0": false, "linear 0 -10 0": false,
		"table 0 - 0" + eight: true, "table 0 - 0 0" + eight: false, "table 0 - 0 6": false, "table 0 - 0 -1": false, "table 0 - 1 5": false,
		"count 0 5 4": true, "count 0 6 4": false, "count 0 5 5": false, "count 0 5 -1": false, "cumulative 0 9,9 9": true, "cumulative 0 9,9 10": false,
		"alldifferent 0 - 1": false, "alldifferent 1 - 0": false, "alldifferent 0,0 - 0": false, "alldifferent 0 1 0": false, "alldifferent 0 - 0 0": false,
		"alldifferent -1 - 0": false, "notequal 0 0 0": false, "element 0 0 0": false, "regular 0 0 0 0,0,0,0,0,0": true, "regular 0 0 0 0,0,0,0,0": false,
		"regular 0 1 0 0,0,0,0,0,0": false, "regular 0 0 0 1,0,0,0,0,0": false, "regular 0 0,0 0 0,0,0,0,0,0": false, "circuit 0 - 0 0": false,
	} {
		if m, ok := impl.DecodeModel("var 0-5\n" + line + "\n"); ok != want || isZeroModel(m) == want {
			t.Errorf("DecodeModel of %q = %+v, %v", line, m, ok)
		}
	}
}

func TestPromise53ModelTextIsCanonical(t *testing.T) {
	s := newSource(101)
	accepted, rejected := 0, 0
	for i := range 60 {
		m := impl.Model{Domains: s.list(s.between(2, 3), 0, 63), Constraints: []impl.Constraint{base(i%9 + 1)}}
		if i%5 == 0 {
			m = s.modelWith(0, 2)
		}
		text := modelText(m)
		for _, changed := range append(edits(text, "0159-, \nv\x00\xff="), lineEdits(text)...) {
			if checkDecodeModel(t, changed) {
				accepted++
			} else {
				rejected++
			}
		}
	}
	if accepted < 1000 || rejected < 1000 {
		t.Errorf("%d changed texts were accepted, and %d were rejected", accepted, rejected)
	}
}

func TestPromise53AnyByteInTheTextOfAModel(t *testing.T) {
	var bytes strings.Builder
	for b := range 256 {
		bytes.WriteByte(byte(b))
	}
	for _, changed := range edits("var 2-3\nvar 0\nlinear 1,0 1,-2 3\ntable 0 - 0 1 2\n", bytes.String()) {
		checkDecodeModel(t, changed)
	}
}

func TestTextsThatAreNoModels(t *testing.T) {
	for _, bad := range []string{
		"\n", " ", "var", "var \n", "var 0", "var 0\n\n", "\nvar 0\n", "var 0\nvar 1", "var 6\n", "var 0-6\n", "var 5-0\n", "var 0,1\n", "var 00\n", "var -\n",
		"var  0\n", "var 0 \n", " var 0\n", "var\t0\n", "var 0\r\n", "var 0\rvar 1\n", "Var 0\n", "VAR 0\n", "variable 0\n", "var0\n", "var 0 1\n", "var 0;var 1\n",
		"circuit 0 - 0\n", "circuit 0 - 0\nvar 0\n", "var 0\ncircuit 0 - 0\nvar 0\n", "var 0\ncircuit 0 - 0", "var 0\ncircuit 0 - 0 \n", "var 0\n circuit 0 - 0\n",
		"var 0\n 0 - 0\n", "var 0\n- 0 - 0\n", "var 0\n9 0 - 0\n", "var 0\nCircuit 0 - 0\n", "var 0\ncircuit\n", "var 0\ncircuit 0\n", "var 0\ncircuit 0 -\n", "var 0\ncircuits 0 - 0\n",
		"var 0\ncircuit 0 - 00\n", "var 0\ncircuit 0 - -0\n", "var 0\ncircuit 0 - +0\n", "var 0\ncircuit 0 - 0.0\n", "var 0\ncircuit 0 - 0x0\n", "var 0\ncircuit 00 - 0\n", "var 0\ncircuit 0, - 0\n",
		"var 0\ncircuit ,0 - 0\n", "var 0\nvar 0\ncircuit 0,,1 - 0\n", "var 0\nvar 0\ncircuit 0, 1 - 0\n", "var 0\nlinear 0 1 1e2\n", "var 0\nlinear 0 1 0_1\n", "var 0\nlinear 0 1 --1\n", "var 0\nlinear 0 1 1-1\n",
		"var 0\nlinear 0 1 18446744073709551616\n", "var 0\nlinear 0 1 -9223372036854775809\n", "var 0\nlinear 4294967296 1 0\n", "var 0\nlinear 0 18446744073709551617 0\n", "var 0\nlinear 0 \u0661 0\n",
		"var 0\nlinear 0 1\n0\n", "var 0\nempty\n", "var 0\n# comment\n", "var 0\ncircuit 0 - 0\n\x00", "\ufeffvar 0\n",
		strings.Repeat("var 0\n", 10000), "var 0\n" + strings.Repeat("circuit 0 - 0\n", 10000), "var 0\ncircuit 0" + strings.Repeat(",0", 10000) + " - 0\n",
		"var 0\nlinear 0 1 " + strings.Repeat("9", 10000) + "\n", "var 0\ntable 0 - 0" + strings.Repeat(" 0", 10000) + "\n", strings.Repeat("-", 10000), "var " + strings.Repeat("0,", 10000) + "\n",
	} {
		checkNoModel(t, bad)
	}
}

func TestPromise54ChecksumIsCRC32(t *testing.T) {
	for s, want := range map[string]int{"123456789": 3421780262, "": 0, "a": 0xE8B7BE43, "abc": 0x352441C2, "\x00": 0xD202EF8D, "\xff\xff\xff\xff": 0xFFFFFFFF,
		"The quick brown fox jumps over the lazy dog": 0x414FA339} {
		if got := impl.Checksum(s); got != want {
			t.Errorf("Checksum(%q) = %d, want %d", s, got, want)
		}
	}
	s := newSource(102)
	for range 500 {
		text := s.bytes(s.between(0, 40))
		if i := s.IntN(50); i == 0 {
			text = strings.Repeat(text, 1000)
		}
		if got := impl.Checksum(text); got != int(crc32.ChecksumIEEE([]byte(text))) {
			t.Fatalf("Checksum(%q) = %d", text, got)
		}
	}
	for b := range 256 {
		text := string([]byte{byte(b)})
		if got := impl.Checksum(text); got != int(crc32.ChecksumIEEE([]byte(text))) {
			t.Errorf("Checksum(%q) = %d", text, got)
		}
	}
}

// bytes returns a text of random bytes.
func (s source) bytes(length int) string {
	text := make([]byte, length)
	for i := range text {
		text[i] = byte(s.IntN(256))
	}
	return string(text)
}

func TestPromise54FlippingABitChangesTheChecksum(t *testing.T) {
	s := newSource(103)
	texts := []string{"123456789", "0=1 2!0\nempty\n", strings.Repeat("\x00", 70), s.bytes(1), s.bytes(90)}
	for _, text := range texts {
		for i := range 8 * len(text) {
			flipped := []byte(text)
			flipped[i/8] ^= 1 << (i % 8)
			if sum := impl.Checksum(string(flipped)); sum == impl.Checksum(text) || sum < 0 || sum > 1<<32-1 {
				t.Errorf("Checksum(%q) = %d, like that of %q", flipped, sum, text)
			}
		}
	}
}

func TestPromise55DecodingAProofInvertsEncoding(t *testing.T) {
	s := newSource(104)
	for range 2000 {
		n := s.between(1, 4)
		proof := s.proof(n, 5)
		if s.IntN(2) == 0 {
			proof = append(proof, s.clause(n, 0, 12), nil)
		}
		checkEncodeProof(t, n, proof, summed(stepsText(proof)))
	}
	for range 100 {
		m := s.provable()
		if proof, ok := impl.ProveInfeasible(m); ok {
			checkEncodeProof(t, len(m.Domains), proof, summed(stepsText(proof)))
			decoded, _ := impl.DecodeProof(len(m.Domains), impl.EncodeProof(len(m.Domains), proof))
			checkProof(t, m, decoded, true)
		}
	}
}

func TestTextsOfProofs(t *testing.T) {
	for n := 1; n <= 4; n++ {
		checkEncodeProof(t, n, nil, "0\n")
		checkEncodeProof(t, n, [][]impl.Literal{}, "0\n")
		checkEncodeProof(t, n, steps(nil), "2931214087\nempty\n")
		checkEncodeProof(t, n, steps([]impl.Literal{}), "2931214087\nempty\n")
		checkEncodeProof(t, n, steps(nil, clause(is(n-1, 5)), nil), summed("empty\n"+strconv.Itoa(n-1)+"=5\nempty\n"))
		checkEncodeProof(t, n, steps(allLiterals(1)), summed("0=0 0!0 0=1 0!1 0=2 0!2 0=3 0!3 0=4 0!4 0=5 0!5\n"))
	}
	checkEncodeProof(t, 3, steps(clause(is(0, 1), isNot(2, 0)), nil), summed("0=1 2!0\nempty\n"))
	checkEncodeProof(t, 4, steps(clause(isNot(3, 5))), summed("3!5\n"))
}

func TestLimitsOfProofTexts(t *testing.T) {
	full := slices.Repeat(steps(allLiterals(1)), 200)
	checkEncodeProof(t, 1, full, summed(strings.Repeat("0=0 0!0 0=1 0!1 0=2 0!2 0=3 0!3 0=4 0!4 0=5 0!5\n", 200)))
	checkEncodeProof(t, 4, slices.Repeat(steps(nil), 200), summed(strings.Repeat("empty\n", 200)))
	checkNotEncoded(t, 1, append(full, nil))
	checkNotEncoded(t, 4, slices.Repeat(steps(nil), 201))
	checkNoSteps(t, 4, summed(strings.Repeat("empty\n", 201)))
	checkNoSteps(t, 4, summed(strings.Repeat("0=0\n", 10000)))
	for n := 2; n <= 4; n++ {
		long := clauseOf(n, func(l impl.Literal) bool { return l.Var < 2 && !l.Not || l == isNot(1, 5) })
		checkNotEncoded(t, n, steps(long))
		checkNoSteps(t, n, summed(stepsText(steps(long))))
		checkEncodeProof(t, n, steps(long[:12]), summed("0=0 0=1 0=2 0=3 0=4 0=5 1=0 1=1 1=2 1=3 1=4 1=5\n"))
	}
}

func TestPromise56ProofTextIsCanonical(t *testing.T) {
	s := newSource(105)
	accepted, rejected := 0, 0
	for range 60 {
		n := s.between(1, 4)
		lines := stepsText(append(s.proof(n, 3), nil))
		for _, changed := range append(edits(lines, "0125-=! \ne\x00\xff,"), lineEdits(lines)...) {
			if checkDecodeSteps(t, n, changed) {
				accepted++
			} else {
				rejected++
			}
		}
	}
	if accepted < 1000 || rejected < 1000 {
		t.Errorf("%d changed proofs were accepted, and %d were rejected", accepted, rejected)
	}
	for _, bad := range []string{
		"\n", " ", "0=0", "empty", "empty \n", " empty\n", "empty\n\n", "\nempty\n", "emptyempty\n", "empty 0=0\n", "0=0 empty\n", "-\n", "Empty\n", "0 = 0\n", "0=\n", "=0\n",
		"0=0 \n", " 0=0\n", "0=0  0=1\n", "0=0,0=1\n", "0=0\t0=1\n", "0=0\r\n", "0==0\n", "0!=0\n", "0=!0\n", "0!!0\n", "!0=0\n", "00=0\n", "0=00\n", "+0=0\n", "0=+0\n", "-0=0\n", "0=-0\n",
		"-1=0\n", "0=-1\n", "0=6\n", "4=0\n", "0=18446744073709551616\n", "4294967296=0\n", "0=1 0=0\n", "0=0 0=0\n", "0!0 0=0\n", "1=0 0=0\n", "0=0 1=0 0=1\n", "x=0\n", "0=x\n", "0\n",
	} {
		for n := 1; n <= 4; n++ {
			checkNoSteps(t, n, summed(bad))
		}
	}
}

func TestPromise56FirstLineIsTheChecksum(t *testing.T) {
	lines := "0=1 2!0\nempty\n"
	text := impl.EncodeProof(3, steps(clause(is(0, 1), isNot(2, 0)), nil))
	if text != summed(lines) {
		t.Fatalf("EncodeProof = %q", text)
	}
	// Also what is no text of a proof behind the first line has another checksum.
	for _, changed := range edits(text, "0123456789=! \n-+e\x00\xff") {
		checkNoSteps(t, 3, changed)
	}
	sum, _, _ := strings.Cut(text, "\n")
	for _, first := range []string{"", "0", "0" + sum, "00" + sum, "+" + sum, "-" + sum, " " + sum, sum + " ", sum + "\r", sum + ".0", sum + "0", "0x" + sum, sum + "\n" + sum, "18446744073709551616", strings.Repeat("9", 10000)} {
		checkNoSteps(t, 3, first+"\n"+lines)
	}
	for _, bad := range []string{"", "\n", "0", "00\n", "-0\n", "+0\n", "0\r\n", " 0\n", "0 \n", "0\n\n", "1\n", "4294967296\n", "-1\n", "empty\n", lines, sum + lines, sum} {
		for n := 1; n <= 4; n++ {
			checkNoSteps(t, n, bad)
		}
	}
	// The sum of 32 bits must not be read with more bits or with a sign.
	wide, _ := strconv.Atoi(sum)
	checkNoSteps(t, 3, strconv.Itoa(wide+1<<32)+"\n"+lines)
	checkNoSteps(t, 3, strconv.Itoa(wide-1<<32)+"\n"+lines)
}

func TestProofTextsRejectInvalidArguments(t *testing.T) {
	for _, n := range invalidNumbers() {
		for _, proof := range [][][]impl.Literal{nil, {}, {nil}, {{is(0, 0)}}, {{isNot(0, 5)}, nil}} {
			checkNotEncoded(t, n, proof)
			checkNoSteps(t, n, summed(stepsText(proof)))
		}
		checkNoSteps(t, n, "")
	}
	for n := 1; n <= 4; n++ {
		for _, bad := range invalidClauses(n) {
			for _, proof := range [][][]impl.Literal{{bad}, {nil, bad}, {bad, nil}, {{is(0, 0)}, bad, {is(0, 1)}}} {
				checkNotEncoded(t, n, proof)
				checkNoSteps(t, n, summed(stepsText(proof)))
			}
		}
		// The last variable of a proof for n variables is none of one for fewer.
		for fewer := 1; fewer < n; fewer++ {
			checkNotEncoded(t, fewer, steps(clause(is(n-1, 0))))
			checkNoSteps(t, fewer, impl.EncodeProof(n, steps(clause(is(n-1, 0)))))
		}
	}
}

func TestEncodingsLeaveTheirArgumentsAlone(t *testing.T) {
	s := newSource(106)
	for range 500 {
		m := roomy(s.model())
		before := snapshot(m)
		text := impl.EncodeModel(m)
		first, _ := impl.DecodeModel(text)
		if overwrite(first) {
			t.Fatal("two slices of the result of DecodeModel share memory")
		}
		if again, ok := impl.DecodeModel(text); !ok || !sameModel(again, m) || !sameModel(before, snapshot(m)) {
			t.Fatal("a model is kept, or was changed")
		}
		n := len(m.Domains)
		var plain, proof [][]impl.Literal
		for _, step := range s.proof(n, 6) {
			plain, proof = append(plain, step), append(proof, marked(step))
		}
		text = impl.EncodeProof(n, proof)
		decoded, _ := impl.DecodeProof(n, text)
		spoilProof(t, decoded)
		if again, ok := impl.DecodeProof(n, text); !ok || !sameProof(again, plain) {
			t.Fatal("a proof is kept from call to call")
		}
		for i, step := range proof {
			if !isMarked(step, plain[i]) {
				t.Fatal("a step was changed")
			}
		}
	}
}

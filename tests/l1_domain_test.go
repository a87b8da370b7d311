package tests

import (
	"slices"
	"strconv"
	"strings"
	"testing"

	"loop.example/constraintsolver/impl"
)

// valuesOf returns the values of a valid domain, by dividing instead of looking at bits.
func valuesOf(d int) []int {
	var values []int
	for v := 0; v < 6; v++ {
		if d%2 == 1 {
			values = append(values, v)
		}
		d /= 2
	}
	return values
}

func TestPromise1DomainIsTheSetOfItsValues(t *testing.T) {
	for d := 0; d <= 63; d++ {
		want := valuesOf(d)
		if !impl.ValidDomain(d) {
			t.Errorf("ValidDomain(%d) = false", d)
		}
		if got := impl.DomainValues(d); !slices.Equal(got, want) {
			t.Errorf("DomainValues(%d) = %v, want %v", d, got, want)
		}
		if got := impl.DomainSize(d); got != len(want) {
			t.Errorf("DomainSize(%d) = %d, want %d", d, got, len(want))
		}
		for v := -70; v <= 140; v++ {
			if got := impl.DomainHas(d, v); got != slices.Contains(want, v) {
				t.Errorf("DomainHas(%d, %d) = %v", d, v, got)
			}
		}
		for _, v := range []int{smallestInt, smallestInt + 1, -1 << 32, 1 << 32, largestInt} {
			if impl.DomainHas(d, v) {
				t.Errorf("DomainHas(%d, %d) = true", d, v)
			}
		}
	}
}

func TestPromise1BoundsAreTheFirstAndTheLastValue(t *testing.T) {
	for d := 1; d <= 63; d++ {
		values := valuesOf(d)
		low, high := impl.DomainBounds(d)
		if low != values[0] || high != values[len(values)-1] {
			t.Errorf("DomainBounds(%d) = %d, %d, values %v", d, low, high, values)
		}
	}
	if low, high := impl.DomainBounds(0); low != -1 || high != -1 {
		t.Errorf("DomainBounds(0) = %d, %d, want -1, -1", low, high)
	}
}

func TestPromise1InvalidDomains(t *testing.T) {
	for _, d := range invalidDomains() {
		if impl.ValidDomain(d) {
			t.Errorf("ValidDomain(%d) = true", d)
		}
		for v := -1; v <= 6; v++ {
			if impl.DomainHas(d, v) {
				t.Errorf("DomainHas(%d, %d) = true", d, v)
			}
		}
		if got := impl.DomainValues(d); len(got) != 0 {
			t.Errorf("DomainValues(%d) = %v", d, got)
		}
		if got := impl.DomainSize(d); got != -1 {
			t.Errorf("DomainSize(%d) = %d", d, got)
		}
		if low, high := impl.DomainBounds(d); low != -1 || high != -1 {
			t.Errorf("DomainBounds(%d) = %d, %d", d, low, high)
		}
		if got := impl.EncodeDomain(d); got != "" {
			t.Errorf("EncodeDomain(%d) = %q", d, got)
		}
	}
}

func TestDomainValuesAreFresh(t *testing.T) {
	first := impl.DomainValues(42)
	first[0] = 99
	if second := impl.DomainValues(42); !slices.Equal(second, []int{1, 3, 5}) {
		t.Errorf("DomainValues(42) = %v after its first result was changed", second)
	}
}

func TestPromise2RangeIsAnInterval(t *testing.T) {
	limits := []int{smallestInt, smallestInt + 1, -1 << 32, 1 << 32, largestInt - 1, largestInt}
	for v := -8; v <= 70; v++ {
		limits = append(limits, v)
	}
	for _, low := range limits {
		for _, high := range limits {
			d := impl.DomainRange(low, high)
			if !impl.ValidDomain(d) {
				t.Fatalf("DomainRange(%d, %d) = %d", low, high, d)
			}
			for v := 0; v <= 5; v++ {
				if impl.DomainHas(d, v) != (low <= v && v <= high) {
					t.Errorf("DomainRange(%d, %d) = %d is wrong about %d", low, high, d, v)
				}
			}
		}
	}
}

func TestPromise3DecodingInvertsEncoding(t *testing.T) {
	for d := 0; d <= 63; d++ {
		s := impl.EncodeDomain(d)
		if got, ok := impl.DecodeDomain(s); !ok || got != d {
			t.Errorf("DecodeDomain(%q) = %d, %v, want %d", s, got, ok, d)
		}
	}
}

func TestEncodeDomainWritesMaximalIntervals(t *testing.T) {
	for d, want := range map[int]string{
		0: "empty", 1: "0", 2: "1", 32: "5", 3: "0-1", 48: "4-5", 5: "0,2", 7: "0-2", 63: "0-5", 62: "1-5", 31: "0-4",
		39: "0-2,5", 33: "0,5", 21: "0,2,4", 42: "1,3,5", 27: "0-1,3-4", 45: "0,2-3,5", 51: "0-1,4-5", 57: "0,3-5",
	} {
		if got := impl.EncodeDomain(d); got != want {
			t.Errorf("EncodeDomain(%d) = %q, want %q", d, got, want)
		}
	}
}

// encodings returns the text form of every domain, built from runs of neighbouring values.
func encodings() map[string]int {
	texts := map[string]int{"empty": 0}
	for d := 1; d <= 63; d++ {
		var parts []string
		values := valuesOf(d)
		for i := 0; i < len(values); {
			j := i
			for j+1 < len(values) && values[j+1] == values[j]+1 {
				j++
			}
			part := strconv.Itoa(values[i])
			if j > i {
				part += "-" + strconv.Itoa(values[j])
			}
			parts = append(parts, part)
			i = j + 1
		}
		texts[strings.Join(parts, ",")] = d
	}
	return texts
}

// checkDecode compares DecodeDomain with the text forms of all domains.
func checkDecode(t *testing.T, texts map[string]int, s string) {
	want, wantOK := texts[s]
	got, ok := impl.DecodeDomain(s)
	if got != want || ok != wantOK {
		t.Errorf("DecodeDomain(%q) = %d, %v, want %d, %v", s, got, ok, want, wantOK)
	}
	if ok && impl.EncodeDomain(got) != s {
		t.Errorf("DecodeDomain(%q) = %d, whose text is %q", s, got, impl.EncodeDomain(got))
	}
}

func TestPromise4TextIsCanonical(t *testing.T) {
	texts := encodings()
	list := []string{""}
	for range 5 {
		var longer []string
		for _, s := range list {
			for _, c := range "0123456-, " {
				longer = append(longer, s+string(c))
			}
		}
		for _, s := range list {
			checkDecode(t, texts, s)
		}
		list = longer
	}
	for _, s := range list {
		checkDecode(t, texts, s)
	}
}

func TestPromise4ChangedTextIsRejected(t *testing.T) {
	texts := encodings()
	for s := range texts {
		for b := range 256 {
			for i := range len(s) + 1 {
				checkDecode(t, texts, s[:i]+string([]byte{byte(b)})+s[i:])
				if i < len(s) {
					checkDecode(t, texts, s[:i]+string([]byte{byte(b)})+s[i+1:])
				}
			}
		}
		for i := range len(s) {
			checkDecode(t, texts, s[:i]+s[i+1:])
		}
	}
	for _, s := range []string{"EMPTY", "Empty", "empty,0", "0,empty", "00", "+1", "-1", "0--2", "0-2-4", "0-1,2", "0-2,2", "0-2,1-3",
		"1-3,0", "5,4", "64", "0x1", "٣", strings.Repeat("0,", 100000), strings.Repeat("empty", 1000)} {
		checkDecode(t, texts, s)
		if _, ok := impl.DecodeDomain(s); ok {
			t.Errorf("DecodeDomain(%.20q) succeeds", s)
		}
	}
}

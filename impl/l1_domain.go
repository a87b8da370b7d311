package impl

import (
	"iter"
	"math/bits"
	"strconv"
	"strings"
)

// MaxValue is the largest value of a variable; values start at 0.
const MaxValue = 5

// fullDomain is the domain of all values.
const fullDomain = 1<<(MaxValue+1) - 1

// emptyText is the text form of the empty domain, which has no interval to write.
const emptyText = "empty"

// bitSet is a valid domain.
type bitSet int

// has reports whether v is a value in the set.
func (s bitSet) has(v int) bool {
	return isValue(v) && s&(1<<v) != 0
}

// size returns the number of values.
func (s bitSet) size() int {
	return bits.OnesCount(uint(s))
}

// values yields the values in ascending order.
func (s bitSet) values() iter.Seq[int] {
	return func(yield func(int) bool) {
		for v := range MaxValue + 1 {
			if s.has(v) && !yield(v) {
				return
			}
		}
	}
}

// intervals yields the smallest and the largest value of each maximal interval, in ascending order.
func (s bitSet) intervals() iter.Seq2[int, int] {
	return func(yield func(int, int) bool) {
		low := 0
		for v := range s.values() {
			if !s.has(v - 1) {
				low = v
			}
			if !s.has(v+1) && !yield(low, v) {
				return
			}
		}
	}
}

// isValue reports whether v is a value.
func isValue(v int) bool {
	return within(v, 0, MaxValue)
}

// within reports whether low <= v <= high.
func within(v int, low int, high int) bool {
	return low <= v && v <= high
}

// ValidDomain reports whether d is a valid domain: a bit set of values in 0..MaxValue.
func ValidDomain(d int) bool {
	return within(d, 0, fullDomain)
}

// DomainHas reports whether the value v is in the domain d.
func DomainHas(d int, v int) bool {
	return ValidDomain(d) && bitSet(d).has(v)
}

// DomainValues returns the values of d in ascending order.
func DomainValues(d int) []int {
	if !ValidDomain(d) {
		return nil
	}
	var values []int
	for v := range bitSet(d).values() {
		values = append(values, v)
	}
	return values
}

// DomainSize returns the number of values of d.
func DomainSize(d int) int {
	if !ValidDomain(d) {
		return -1
	}
	return bitSet(d).size()
}

// DomainBounds returns the smallest and the largest value of d.
func DomainBounds(d int) (int, int) {
	if !ValidDomain(d) || d == 0 {
		return -1, -1
	}
	return bits.TrailingZeros(uint(d)), bits.Len(uint(d)) - 1
}

// DomainRange returns the domain of all values between low and high.
func DomainRange(low int, high int) int {
	d := 0
	for v := range MaxValue + 1 {
		if within(v, low, high) {
			d |= 1 << v
		}
	}
	return d
}

// EncodeDomain returns d as a list of intervals.
func EncodeDomain(d int) string {
	if !ValidDomain(d) {
		return ""
	}
	if d == 0 {
		return emptyText
	}
	var parts []string
	for low, high := range bitSet(d).intervals() {
		parts = append(parts, encodeInterval(low, high))
	}
	return strings.Join(parts, ",")
}

// encodeInterval returns the interval from low to high as text.
func encodeInterval(low int, high int) string {
	if low == high {
		return strconv.Itoa(low)
	}
	return strconv.Itoa(low) + "-" + strconv.Itoa(high)
}

// DecodeDomain is the inverse of EncodeDomain.
func DecodeDomain(s string) (int, bool) {
	// There are so few domains that looking for the one with this text is simplest, and it accepts no other text.
	for d := range fullDomain + 1 {
		if EncodeDomain(d) == s {
			return d, true
		}
	}
	return 0, false
}

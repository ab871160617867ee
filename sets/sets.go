// Package sets is layer 1: sets of the integers 0 to 63, each kept as the bits of a uint64. See shared/doc/01-sets.md.
package sets

import (
	"iter"
	"math/bits"
	"strconv"
	"strings"
)

// bit returns the set whose only member is i, or the empty set if i can't be a member.
func bit(i int) uint64 {
	// A shift by 64 or more yields 0 of itself; a negative one would panic.
	if i < 0 {
		return 0
	}
	return uint64(1) << i
}

// Of returns the set of its arguments.
func Of(l ...int) uint64 {
	var s uint64
	for _, i := range l {
		s = With(s, i)
	}
	return s
}

// All returns the set of the integers from 0 that are less than n.
func All(n int) uint64 {
	if n < 0 {
		return 0
	}
	// From 64 on the shift yields 0, and 0 - 1 is the set of all members.
	return uint64(1)<<n - 1
}

// Has reports whether i is a member of s.
func Has(s uint64, i int) bool {
	return s&bit(i) != 0
}

// With returns s with i added.
func With(s uint64, i int) uint64 {
	return s | bit(i)
}

// Without returns s with i removed.
func Without(s uint64, i int) uint64 {
	return s &^ bit(i)
}

// Count returns the number of members.
func Count(s uint64) int {
	return bits.OnesCount64(s)
}

// Least returns the smallest member, or -1 if there is none.
func Least(s uint64) int {
	if s == 0 {
		return -1
	}
	return bits.TrailingZeros64(s)
}

// Next returns the smallest member that is not less than i; if there is none, the smallest member; -1 if the set is empty.
func Next(s uint64, i int) int {
	if rest := s &^ All(i); rest != 0 {
		return Least(rest)
	}
	return Least(s)
}

// Each returns an iterator over the members in ascending order.
func Each(s uint64) iter.Seq[int] {
	return func(yield func(int) bool) {
		// The loop uses up a copy, so that the iterator can be ranged over again.
		for rest := s; rest != 0; {
			i := Least(rest)
			if !yield(i) {
				return
			}
			rest = Without(rest, i)
		}
	}
}

// Text returns the members in ascending order, separated by commas, or - if there are none.
func Text(s uint64) string {
	if s == 0 {
		return "-"
	}
	words := make([]string, 0, Count(s))
	for i := range Each(s) {
		words = append(words, strconv.Itoa(i))
	}
	return strings.Join(words, ",")
}

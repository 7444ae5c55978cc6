// Package bitset is layer 1: sets of integers from 0 to 63. It is specified in shared/doc/01-bitset.md.
package bitset

import (
	"airtime/api"
	"iter"
	"math/bits"
	"strconv"
	"strings"
)

// size is the number of integers that can be elements.
const size = 64

// empty is the text of the empty set.
const empty = "-"

// Of returns the set of those elements of l that are from 0 to 63.
func Of(l ...int) uint64 {
	var s uint64
	for _, i := range l {
		s = With(s, i)
	}
	return s
}

// Has reports whether i is an element of s.
func Has(s uint64, i int) bool {
	return s&single(i) != 0
}

// With returns s with i added, or s if i is not from 0 to 63.
func With(s uint64, i int) uint64 {
	return s | single(i)
}

// Without returns s without i.
func Without(s uint64, i int) uint64 {
	return s &^ single(i)
}

// Count returns the number of elements of s.
func Count(s uint64) int {
	return bits.OnesCount64(s)
}

// First returns the least element of s and true, or 0 and false if s is empty.
func First(s uint64) (int, bool) {
	if s == 0 {
		return 0, false
	}
	return bits.TrailingZeros64(s), true
}

// Each yields the elements of s in ascending order.
func Each(s uint64) iter.Seq[int] {
	return func(yield func(int) bool) {
		// A copy is consumed, so that the iterator can be used again.
		for left := s; left != 0; left &= left - 1 {
			if !yield(bits.TrailingZeros64(left)) {
				return
			}
		}
	}
}

// Down returns the set of i-n for the elements i of s that are at least n; a negative n counts as 0.
func Down(s uint64, n int) uint64 {
	return s >> max(n, 0)
}

// Range returns the set of the integers from from to to-1 that are from 0 to 63.
func Range(from, to int) uint64 {
	return below(to) &^ below(from)
}

// Text returns the elements in ascending order, separated by commas, or - if s is empty.
func Text(s uint64) string {
	if s == 0 {
		return empty
	}
	var words []string
	for i := range Each(s) {
		words = append(words, strconv.Itoa(i))
	}
	return strings.Join(words, ",")
}

// Parse returns the set with the text s, or ErrForm if Text returns s for no set.
func Parse(s string) (uint64, api.Errno) {
	if s == empty {
		return 0, api.OK
	}
	var set uint64
	least := 0
	for rest, more := s, true; more; {
		var word string
		word, rest, more = strings.Cut(rest, ",")
		i, ok := element(word)
		if !ok || i < least {
			return 0, api.ErrForm
		}
		set = With(set, i)
		least = i + 1
	}
	return set, api.OK
}

// element returns the integer from 0 to 63 with the text word.
func element(word string) (int, bool) {
	i, err := strconv.Atoi(word)
	// Atoi accepts signs and leading zeros, which Text never writes.
	if err != nil || !inside(i) || strconv.Itoa(i) != word {
		return 0, false
	}
	return i, true
}

// inside reports whether i can be an element.
func inside(i int) bool {
	return 0 <= i && i < size
}

// single returns the set of i alone, or the empty set if i cannot be an element.
func single(i int) uint64 {
	if !inside(i) {
		return 0
	}
	return 1 << i
}

// below returns the set of all elements that are less than n.
func below(n int) uint64 {
	// A shift by 64 gives 0, and 0-1 is the set of all 64 integers.
	return uint64(1)<<min(max(n, 0), size) - 1
}

// Package cats is layer 1: see shared/doc/01-cats.md.
package cats

import (
	"math/bits"
	"strconv"
	"strings"
)

// total is how many categories there are: a set has a bit for each.
const total = 64

// may tells whether a number is a category.
func may(c int) bool { return c >= 0 && c < total }

// Has tells whether a category is in a set.
func Has(s uint64, c int) bool { return may(c) && s>>c&1 == 1 }

// With is a set and one category more; false: it is no category.
func With(s uint64, c int) (uint64, bool) {
	if !may(c) {
		return 0, false
	}
	return s | 1<<c, true
}

// Without is a set without a category.
func Without(s uint64, c int) uint64 {
	if !may(c) {
		return s
	}
	return s &^ (1 << c)
}

// Within tells whether all of a set are in another one.
func Within(a, b uint64) bool { return a&^b == 0 }

// Count is how many categories a set has.
func Count(s uint64) int { return bits.OnesCount64(s) }

// List is all categories of a set, rising.
func List(s uint64) []int {
	l := make([]int, 0, Count(s))
	for c := range total {
		if Has(s, c) {
			l = append(l, c)
		}
	}
	return l
}

// Of is the set of some categories; false: one is none.
func Of(l []int) (uint64, bool) {
	s := uint64(0)
	for _, c := range l {
		more, ok := With(s, c)
		if !ok {
			return 0, false
		}
		s = more
	}
	return s, true
}

// Text is a set as text.
func Text(s uint64) string {
	words := make([]string, 0, Count(s))
	for _, c := range List(s) {
		words = append(words, strconv.Itoa(c))
	}
	return strings.Join(words, ",")
}

// Parse is the set of a text; false: it is none's.
func Parse(t string) (uint64, bool) {
	if t == "" {
		return 0, true
	}
	s := uint64(0)
	next := 0 // categories rise: what is less than this can't follow any more
	for more := true; more; {
		var word string
		word, t, more = strings.Cut(t, ",")
		c, ok := category(word)
		if !ok || c < next {
			return 0, false
		}
		s |= 1 << c
		next = c + 1
	}
	return s, true
}

// category is the category that a text tells, in digits without noughts ahead; false: it tells none.
func category(t string) (int, bool) {
	// No category has three digits: so a long text is not gone through at all.
	if t == "" || len(t) > 2 || len(t) == 2 && t[0] == '0' {
		return 0, false
	}
	c := 0
	for i := range len(t) {
		if t[i] < '0' || t[i] > '9' {
			return 0, false
		}
		c = c*10 + int(t[i]-'0')
	}
	if !may(c) {
		return 0, false
	}
	return c, true
}

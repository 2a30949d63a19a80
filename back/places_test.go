package back

import (
	"math/rand"
	"slices"
	"testing"
)

// numbers returns the numbers of a set below some number.
func numbers(s places, below int) []int {
	var l []int
	for n := range below {
		if s.has(n) {
			l = append(l, n)
		}
	}
	return l
}

// TestPlaces checks sets of places against lists of numbers.
func TestPlaces(test *testing.T) {
	const below = 600
	r := rand.New(rand.NewSource(9))
	any := func() []int {
		var l []int
		first, width, many := r.Intn(below-100), 1+r.Intn(400), r.Intn(60)
		for range many {
			l = append(l, min(first+r.Intn(width), below-100))
		}
		slices.Sort(l)
		return slices.Compact(l)
	}
	for range 5000 {
		a, b, cells := any(), any(), 1+r.Intn(12)
		s, o := placesOf(a...), placesOf(b...)
		if !slices.Equal(numbers(s, below), a) || s.empty() != (len(a) == 0) {
			test.Fatalf("P9.1: the set of %v has %v", a, numbers(s, below))
		}
		union := slices.Compact(slices.Sorted(slices.Values(slices.Concat(a, b))))
		if got := s.union(o); !slices.Equal(numbers(got, below), union) {
			test.Fatalf("P9.1: the union of %v and %v has %v", a, b, numbers(got, below))
		}
		var both []int
		for _, n := range a {
			if slices.Contains(b, n) {
				both = append(both, n+cells)
			}
		}
		got := s.past(o, cells)
		if !slices.Equal(numbers(got, below), both) || got.empty() != (len(both) == 0) {
			test.Fatalf("P9.1: past %v and %v by %d are %v", a, b, cells, numbers(got, below))
		}
		if !got.empty() && (got.words[0] == 0 || got.words[len(got.words)-1] == 0) {
			test.Fatalf("P9.1: a set has empty words at an end: %v", got)
		}
		if !slices.Equal(numbers(s, below), a) || !slices.Equal(numbers(o, below), b) {
			test.Fatal("P9.1: sets are changed")
		}
	}
}

package back

import "slices"

const wordBits = 64

// places is a set of numbers of cells: the bit i of words[k] says whether 64 * (first + k) + i is one of them. The words at both ends are not 0, so that a set of few neighbours has few words.
type places struct {
	first int
	words []uint64
}

// placesOf returns the set of some numbers.
func placesOf(l ...int) places {
	if len(l) == 0 {
		return places{}
	}
	first := slices.Min(l) / wordBits
	words := make([]uint64, slices.Max(l)/wordBits-first+1)
	for _, n := range l {
		words[n/wordBits-first] |= 1 << (n % wordBits)
	}
	return places{first, words}
}

// empty reports whether a set has no numbers.
func (s places) empty() bool {
	return len(s.words) == 0
}

// end returns the index after the last word.
func (s places) end() int {
	return s.first + len(s.words)
}

// has reports whether a number is in a set.
func (s places) has(n int) bool {
	k := n / wordBits
	return k >= s.first && k < s.end() && s.words[k-s.first]>>(n%wordBits)&1 == 1
}

// union returns the numbers of both sets.
func (s places) union(o places) places {
	if s.empty() {
		return o
	}
	if o.empty() {
		return s
	}
	first := min(s.first, o.first)
	words := make([]uint64, max(s.end(), o.end())-first)
	copy(words[s.first-first:], s.words)
	for k, w := range o.words {
		words[o.first-first+k] |= w
	}
	return places{first, words}
}

// past returns the numbers that are greater, by less than 64, than those that both sets have.
func (s places) past(o places, cells int) places {
	first, end := max(s.first, o.first), min(s.end(), o.end())
	for first < end && s.words[first-s.first]&o.words[first-o.first] == 0 {
		first++
	}
	if first >= end {
		return places{}
	}
	words := make([]uint64, end-first+1)
	for k := range end - first {
		both := s.words[first+k-s.first] & o.words[first+k-o.first]
		words[k] |= both << cells
		words[k+1] = both >> (wordBits - cells)
	}
	return trimmed(first, words)
}

// trimmed returns the set of words, without those at both ends that are 0.
func trimmed(first int, words []uint64) places {
	for len(words) > 0 && words[0] == 0 {
		words = words[1:]
		first++
	}
	for len(words) > 0 && words[len(words)-1] == 0 {
		words = words[:len(words)-1]
	}
	return places{first, words}
}

package hyphen

import (
	"iter"
	"slices"
	"strings"

	"dactyl/api"
)

// shape is what tells patterns apart.
type shape struct {
	letters     string
	first, last bool // its dots: whether it begins or ends with the word
}

// patterns are valid patterns: the index of each one in their list, and its digits after 0, 1, 2 and so on of its letters.
type patterns struct {
	index  map[shape]int
	digits [][]int
}

// read returns the patterns of a list, or its error.
func read(l []string) (patterns, api.Errno) {
	if len(l) > maxPatterns || slices.ContainsFunc(l, tooLong) {
		return patterns{}, api.ErrLimit
	}
	p := patterns{index: map[shape]int{}}
	for i, text := range l {
		s, digits, ok := parse(text)
		if !ok {
			return patterns{}, api.ErrForm
		}
		p.digits = append(p.digits, digits)
		p.index[s] = i
	}
	if len(p.index) < len(l) {
		return patterns{}, api.ErrTwice
	}
	return p, api.OK
}

func tooLong(text string) bool {
	return len(text) > maxBytes
}

// parse returns the shape and the digits of a pattern, and whether the text is one.
func parse(text string) (shape, []int, bool) {
	var s shape
	text, s.first = strings.CutPrefix(text, ".")
	text, s.last = strings.CutSuffix(text, ".")
	var letters []byte
	digits := []int{0}
	free := true // whether no digit stands after the last letter
	for _, c := range []byte(text) {
		switch {
		case isLetter(c):
			letters = append(letters, c)
			digits = append(digits, 0)
			free = true
		case isDigit(c) && free:
			digits[len(letters)] = int(c - '0')
			free = false
		default:
			return shape{}, nil, false
		}
	}
	s.letters = string(letters)
	return s, digits, len(letters) > 0
}

func isLetter(c byte) bool {
	return c >= 'a' && c <= 'z'
}

func isDigit(c byte) bool {
	return c >= '0' && c <= '9'
}

// occurrences yields each place of a word at which a pattern occurs, with the index of the pattern.
func (p patterns) occurrences(word string) iter.Seq2[int, int] {
	return func(yield func(int, int) bool) {
		for place := range len(word) {
			for end := place + 1; end <= min(len(word), place+maxBytes); end++ {
				if !p.between(word, place, end, yield) {
					return
				}
			}
		}
	}
}

// between yields the patterns whose letters are word[place:end], and returns whether more are wanted.
func (p patterns) between(word string, place, end int, yield func(int, int) bool) bool {
	for _, first := range []bool{false, true} {
		for _, last := range []bool{false, true} {
			if first && place > 0 || last && end < len(word) {
				continue
			}
			i, ok := p.index[shape{word[place:end], first, last}]
			if ok && !yield(place, i) {
				return false
			}
		}
	}
	return true
}

// lay gives each digit of the patterns that occur in a word to onto, with the index of its pattern and the place that it is for.
func (p patterns) lay(word string, onto func(index, place, digit int)) {
	for place, index := range p.occurrences(word) {
		for after, digit := range p.digits[index] {
			onto(index, place+after, digit)
		}
	}
}

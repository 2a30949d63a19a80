package contract

import (
	"slices"

	"dactyl/table"
)

const (
	states = 8
	none   = -1 // there is no such number
)

// numbers are the least numbers of a place, in the order of the numbers of the states.
type numbers [states]int

// number returns the number of a state.
func number(s table.State) int {
	n := 4 * s.Lang
	if s.Num {
		n += 2
	}
	if s.In {
		n++
	}
	return n
}

// least returns the least numbers of all places.
func (x text) least() []numbers {
	l := make([]numbers, len(x.characters)+1)
	for at := range slices.Backward(x.characters) {
		l[at] = x.equations(at, l)
	}
	return l
}

// solved reports whether numbers of all places are the least ones: those of each place follow from those after it.
func (x text) solved(l []numbers) bool {
	for at, n := range l {
		if n != x.equations(at, l) {
			return false
		}
	}
	return true
}

// equations returns the least numbers of a place that follow from those of the places after it.
func (x text) equations(at int, l []numbers) numbers {
	var here numbers
	if at == len(x.characters) {
		return here
	}
	rest := func(s table.Step) int {
		if s.Len == 0 {
			return here[number(s.To)]
		}
		return l[at+s.Len][number(s.To)]
	}
	// A step without characters leads to a state of the language of the
	// character, so that these come first. What was before a character (In)
	// makes no difference for the steps.
	own := x.characters[at].Lang
	for _, lang := range []int{own, 1 - own} {
		for _, num := range []bool{false, true} {
			s := table.State{Lang: lang, Num: num}
			n := lowest(sums(x.steps(s, at), rest))
			here[number(s)] = n
			s.In = true
			here[number(s)] = n
		}
	}
	return here
}

// sums returns for each step the number of its cells and of those of the rest after it, or none, if there is no rest.
func sums(steps []table.Step, rest func(table.Step) int) []int {
	l := make([]int, len(steps))
	for i, s := range steps {
		l[i] = none
		if n := rest(s); n != none {
			l[i] = len(s.Cells) + n
		}
	}
	return l
}

// lowest returns the least number of a list, or none.
func lowest(l []int) int {
	if i := best(l, fewer); i >= 0 {
		return l[i]
	}
	return none
}

// cheapest chooses the first step that leads to the end with the fewest cells, if one leads there.
func cheapest(least []numbers) choice {
	return func(_, at int, steps []table.Step) int {
		rest := func(s table.Step) int { return least[at+s.Len][number(s.To)] }
		return best(sums(steps, rest), fewer)
	}
}

// fewer reports whether a number is less than another one, where none is more than any number.
func fewer(a, b int) bool {
	return a != none && (b == none || a < b)
}

// best returns the index of the first element of a list than which no other one is better, or -1 for an empty list.
func best[T any](l []T, better func(a, b T) bool) int {
	k := -1
	for i, v := range l {
		if k < 0 || better(v, l[k]) {
			k = i
		}
	}
	return k
}

// lists returns the least numbers of all places as lists.
func lists(least []numbers) [][]int {
	l := make([][]int, len(least))
	for i, n := range least {
		l[i] = slices.Clone(n[:])
	}
	return l
}

// arrays returns lists of least numbers as arrays, and whether there are so many, with a number for each state.
func arrays(l [][]int, places int) ([]numbers, bool) {
	if len(l) != places {
		return nil, false
	}
	least := make([]numbers, places)
	for i, n := range l {
		if len(n) != states {
			return nil, false
		}
		least[i] = numbers(n)
	}
	return least, true
}

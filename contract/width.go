package contract

import (
	"slices"

	"dactyl/api"
	"dactyl/table"
)

// far is more than the cells of any text.
const far = 1 << 20

// hops are, for each number of characters, the fewest cells by which a path goes on at a place with a step of so many of them (and Switch before it), or far.
type hops [api.MaxPiece + 1]int

// jump has the hops at a place, if the text goes on after the step, and if it ends there.
type jump struct {
	inner, last hops
}

// divides reports whether points are a division of a text of a length.
func divides(points []int, length int) bool {
	before := 0
	for _, p := range points {
		if p <= before || p >= length {
			return false
		}
		before = p
	}
	return true
}

// widths returns for each piece of a text with a translation the fewest cells of it and of so many further ones.
func (x text) widths(points []int) [][]int {
	length := len(x.characters)
	if length == 0 {
		return nil
	}
	starts, ends := slices.Concat([]int{0}, points), slices.Concat(points, []int{length})
	ending := make([]bool, length+1)
	for _, q := range ends {
		ending[q] = true
	}
	// In a text that begins before a place, the jump there does not depend on
	// more of it than the last character.
	jumps := make([]jump, length)
	for at, s := range x.reached() {
		jumps[at] = x.jump(max(0, at-1), at, s, ending)
	}
	l := make([][]int, len(starts))
	for i, p := range starts {
		first := x.jump(p, p, table.State{}, ending)
		cells := fewest(first, jumps[p:])
		for _, q := range ends[i:] {
			l[i] = append(l[i], cells[q-p])
		}
	}
	return l
}

// reached returns for each place of a text with a translation the state in which a path comes there: all paths come in that of the plain one, as the last character alone decides on it.
func (x text) reached() []table.State {
	l := make([]table.State, len(x.characters))
	for m := range x.path(x.plain) {
		if next := m.at + m.step.Len; m.step.Len > 0 && next < len(l) {
			l[next] = m.step.To
		}
	}
	return l
}

// jump returns the jump at a place which is reached in a state, where the text begins at a place, and may end at some.
func (x text) jump(begin, at int, s table.State, ending []bool) jump {
	length := len(x.characters)
	j := jump{inner: x.part(begin, length).hops(s, at-begin)}
	for n := range j.last {
		j.last[n] = far
		if end := at + n; n > 0 && end <= length && ending[end] {
			j.last[n] = x.part(begin, end).hops(s, at-begin)[n]
		}
	}
	return j
}

// part returns a part of a text as a text of its own.
func (x text) part(begin, end int) text {
	return text{x.tables, x.characters[begin:end]}
}

// hops returns the hops at a place in a state.
func (x text) hops(s table.State, at int) hops {
	var h hops
	for n := range h {
		h[n] = far
	}
	var visit func(s table.State, before int)
	visit = func(s table.State, before int) {
		for _, step := range x.steps(s, at) {
			cells := before + len(step.Cells)
			if step.Len == 0 {
				visit(step.To, cells)
				continue
			}
			h[step.Len] = min(h[step.Len], cells)
		}
	}
	visit(s, 0)
	return h
}

// fewest returns for each number of characters the fewest cells of a text that ends after them, from its first jump and those at its places on.
func fewest(first jump, jumps []jump) []int {
	inner := slices.Repeat([]int{far}, len(jumps)+1)
	last := slices.Clone(inner)
	inner[0] = 0
	for at, j := range jumps {
		if at == 0 {
			j = first
		}
		for n := 1; n <= api.MaxPiece && at+n <= len(jumps); n++ {
			inner[at+n] = min(inner[at+n], inner[at]+j.inner[n])
			last[at+n] = min(last[at+n], inner[at]+j.last[n])
		}
	}
	return last
}

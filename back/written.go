package back

import (
	"bytes"

	"dactyl/api"
	"dactyl/table"
)

// written reports whether cells are those of a translation of a text (with a character that is not valid there are no steps).
func written(t api.Tables, l []api.Sym, cells []byte) bool {
	where := standing(cells)
	// For each number of characters, and each state in which they are
	// written: how many of the cells there may be then.
	known := make([]map[table.State]places, len(l)+1)
	for at := range known {
		known[at] = map[table.State]places{}
	}
	known[0][table.State{}] = placesOf(0)
	var write func(at int, s table.State, from places)
	write = func(at int, s table.State, from places) {
		for _, step := range table.Steps(t, s, l, at) {
			to := from.past(where(step.Cells), len(step.Cells))
			switch next := at + step.Len; {
			case to.empty():
			case step.Len == 0:
				write(at, step.To, to)
			default:
				known[next][step.To] = known[next][step.To].union(to)
			}
		}
	}
	for at := range l {
		for s, from := range known[at] {
			write(at, s, from)
		}
	}
	for _, ends := range known[len(l)] {
		if ends.has(len(cells)) {
			return true
		}
	}
	return false
}

// standing returns what finds the places in cells where some of them stand, each time only once for the same ones.
func standing(cells []byte) func(some []byte) places {
	found := map[string]places{}
	return func(some []byte) places {
		s, known := found[string(some)]
		if !known {
			var l []int
			for at := range cells {
				if bytes.HasPrefix(cells[at:], some) {
					l = append(l, at)
				}
			}
			s = placesOf(l...)
			found[string(some)] = s
		}
		return s
	}
}

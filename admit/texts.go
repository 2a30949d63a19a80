package admit

import (
	"iter"
	"maps"
	"slices"
	"strings"

	"dactyl/api"
)

// reading is what is known of the texts that have some cells as a translation.
type reading struct {
	guide *guide
	cells string
	open  [][writers]bool // for each number of cells that are read, from which writers the end can be reached
}

// spot says that so many cells are read, and that these characters are to come before a writer goes on.
type spot struct {
	at   int
	w    writer
	text string
}

// read returns the reading of cells.
func read(g *guide, cells string) *reading {
	r := &reading{g, cells, make([][writers]bool, len(cells)+1)}
	for w := range writers {
		r.open[len(cells)][w] = writer(w).mayEnd()
	}
	for at := len(cells) - 1; at >= 0; at-- {
		for w := range writers {
			for range r.moves(at, writer(w)) {
				r.open[at][w] = true
				break
			}
		}
	}
	return r
}

// moves yields where the moves of a writer lead from which the end can be reached.
func (r *reading) moves(at int, w writer) iter.Seq[spot] {
	return func(yield func(spot) bool) {
		for _, m := range r.guide[w] {
			if !strings.HasPrefix(r.cells[at:], m.cells) {
				continue
			}
			to := at + len(m.cells)
			if r.open[to][m.to] && !yield(spot{to, m.to, m.text}) {
				return
			}
		}
	}
}

// texts yields the texts that begin with some characters and go on at one of some spots, in order, each once.
func (r *reading) texts(before []byte, spots []spot) iter.Seq[string] {
	return func(yield func(string) bool) {
		next, ends := r.next(spots)
		if ends && !yield(string(before)) {
			return
		}
		for _, c := range slices.Sorted(maps.Keys(next)) {
			for text := range r.texts(append(before, c), next[c]) {
				if !yield(text) {
					return
				}
			}
		}
	}
}

// next returns the spots after each character that can be next, and whether the text may end before it.
func (r *reading) next(spots []spot) (map[byte][]spot, bool) {
	known := map[spot]bool{}
	next := map[byte][]spot{}
	ends := false
	queue := slices.Clone(spots)
	for len(queue) > 0 {
		s := queue[0]
		queue = queue[1:]
		switch {
		case known[s]:
		case s.text != "":
			c := s.text[0]
			next[c] = append(next[c], spot{s.at, s.w, s.text[1:]})
		default:
			ends = ends || s.at == len(r.cells)
			queue = slices.AppendSeq(queue, r.moves(s.at, s.w))
		}
		known[s] = true
	}
	return next, ends
}

// firstTwo returns the first two texts that have cells as a translation; there are two.
func firstTwo(g *guide, cells string) [2][]api.Sym {
	var l [2][]api.Sym
	found := 0
	for text := range read(g, cells).texts(nil, []spot{{}}) {
		l[found] = decoded(text)
		found++
		if found == len(l) {
			break
		}
	}
	return l
}

package admit

import (
	"slices"
)

const enough = 2 // differences that are kept of a situation

// arrival is a situation that is reached with a difference as soon as these cells are read.
type arrival struct {
	to   int
	how  difference
	left string
}

// front is what is reached with some cells: those of the front before, and one more.
type front struct {
	before   int
	cell     byte
	arrivals []arrival
}

// search looks for the first cells that two different texts have in common.
//
// Of each situation the first two differences are enough. Whatever leads from
// there to an end makes the texts the same for one difference at most, so one
// of two leads to different texts; and it does so with cells that are not
// after those of a difference that is found later.
type search struct {
	net
	open   []bool
	kept   [][]difference
	fronts []front // in the order of their cells: by their number, and then lexicographically
}

// newSearch returns a search that has found nothing.
func newSearch(n net) *search {
	return &search{
		net:    n,
		open:   n.open(),
		kept:   make([][]difference, len(n.situations)),
		fronts: []front{{arrivals: []arrival{{}}}},
	}
}

// shared returns the first cells that two different texts have in common, and whether there are any.
func (s *search) shared() (string, bool) {
	for i := 0; i < len(s.fronts); i++ {
		if s.pass(i) {
			return s.cells(i), true
		}
	}
	return "", false
}

// pass goes on from a front to those with one more cell, and reports whether two different texts end here.
func (s *search) pass(i int) bool {
	queue := s.fronts[i].arrivals
	s.fronts[i].arrivals = nil
	var next [maxCell + 1][]arrival
	for len(queue) > 0 {
		a := queue[0]
		queue = queue[1:]
		if s.full(a.to) || slices.Contains(s.kept[a.to], a.how) {
			continue
		}
		if a.left != "" {
			cell := a.left[0]
			next[cell] = append(next[cell], arrival{a.to, a.how, a.left[1:]})
			continue
		}
		s.kept[a.to] = append(s.kept[a.to], a.how)
		p := pair{s.situations[a.to], a.how}
		if !p.possible() {
			return true
		}
		queue = s.leave(a, queue)
	}
	for cell, l := range next {
		if len(l) > 0 {
			s.fronts = append(s.fronts, front{i, byte(cell), l})
		}
	}
	return false
}

// full reports whether a situation needs no further difference.
func (s *search) full(i int) bool {
	l := s.kept[i]
	return len(l) == enough || len(l) == 1 && l[0].kind == apart
}

// leave adds the arrivals at the successors of a situation, as far as an end can be reached from them.
func (s *search) leave(a arrival, queue []arrival) []arrival {
	for _, k := range s.links[a.to] {
		if !s.open[k.to] {
			continue
		}
		left := ""
		if k.turned {
			left = s.situations[k.to].rest
		}
		queue = append(queue, arrival{k.to, a.how.after(k.text, k.turned), left})
	}
	return queue
}

// cells returns the cells of a front.
func (s *search) cells(i int) string {
	var b []byte
	for ; i > 0; i = s.fronts[i].before {
		b = append(b, s.fronts[i].cell)
	}
	slices.Reverse(b)
	return string(b)
}

// proof returns the proof after nothing was found: each situation from which an end can be reached has one difference.
func (s *search) proof() Proof {
	var p Proof
	for i, at := range s.situations {
		how := difference{apart, ""}
		if s.open[i] {
			how = s.kept[i][0]
		}
		p.Pairs = append(p.Pairs, pair{at, how}.numbers())
	}
	return p
}

package admit

import (
	"iter"
	"strings"
)

// node says that so many characters of a text are written, and that these cells are to come before a writer goes on.
type node struct {
	at   int
	w    writer
	rest string
}

// arc leads to a node by a cell.
type arc struct {
	cell byte
	to   int
}

// paths has the nodes of a text, the one of the beginning first, and the arcs from each of them.
type paths struct {
	arcs [][]arc
	ends []bool // whether the text may end at a node
	seen []int  // the round in which a node was counted last
	now  int    // the round
}

// pathsOf returns the paths of a text.
func pathsOf(g *guide, text string) *paths {
	var p paths
	nodes := []node{{}}
	numbers := map[node]int{{}: 0}
	number := func(n node) int {
		i, known := numbers[n]
		if !known {
			i = len(nodes)
			numbers[n] = i
			nodes = append(nodes, n)
		}
		return i
	}
	for i := 0; i < len(nodes); i++ {
		n := nodes[i]
		var out []arc
		if n.rest != "" {
			out = append(out, arc{n.rest[0], number(node{n.at, n.w, n.rest[1:]})})
		} else {
			for m := range g.fitting(n.w, text[n.at:]) {
				out = append(out, arc{m.cells[0], number(node{n.at + len(m.text), m.to, m.cells[1:]})})
			}
		}
		p.arcs = append(p.arcs, out)
		p.ends = append(p.ends, n.rest == "" && n.at == len(text) && n.w.mayEnd())
	}
	p.seen = make([]int, len(nodes))
	return &p
}

// fitting yields the moves of a writer whose characters a text begins with.
func (g *guide) fitting(w writer, text string) iter.Seq[move] {
	return func(yield func(move) bool) {
		for _, m := range g[w] {
			if strings.HasPrefix(text, m.text) && !yield(m) {
				return
			}
		}
	}
}

// distinct returns nodes, each of them once.
func (p *paths) distinct(l []int) []int {
	p.now++
	var once []int
	for _, i := range l {
		once = p.count(once, i)
	}
	return once
}

// after returns the nodes to which cells lead from some nodes.
func (p *paths) after(l []int, cells string) []int {
	for _, cell := range []byte(cells) {
		p.now++
		var next []int
		for _, i := range l {
			for _, a := range p.arcs[i] {
				if a.cell == cell {
					next = p.count(next, a.to)
				}
			}
		}
		l = next
	}
	return l
}

// count adds a node to those of a round, if it is not among them.
func (p *paths) count(l []int, i int) []int {
	if p.seen[i] == p.now {
		return l
	}
	p.seen[i] = p.now
	return append(l, i)
}

// end reports whether a text may end at one of some nodes.
func (p *paths) end(l []int) bool {
	for _, i := range l {
		if p.ends[i] {
			return true
		}
	}
	return false
}

// share reports whether two texts have a translation in common.
func share(g *guide, one, other string) bool {
	p := pathsOf(g, other)
	// For each number of characters of the one text, and each writer: the
	// nodes of the other text to which the same cells lead.
	reached := make([][writers][]int, len(one)+1)
	reached[0][0] = []int{0}
	for at := range reached {
		for w := range inOrder() {
			l := p.distinct(reached[at][w])
			reached[at][w] = nil
			if len(l) == 0 {
				continue
			}
			if at == len(one) && w.mayEnd() && p.end(l) {
				return true
			}
			for m := range g.fitting(w, one[at:]) {
				to := &reached[at+len(m.text)][m.to]
				*to = append(*to, p.after(l, m.cells)...)
			}
		}
	}
	return false
}

// inOrder yields the writers; those after Switch are the last ones, as others lead to them without a character.
func inOrder() iter.Seq[writer] {
	return func(yield func(writer) bool) {
		for kind := range kinds {
			for language := range languages {
				if !yield(writer(language*kinds + kind)) {
					return
				}
			}
		}
	}
}

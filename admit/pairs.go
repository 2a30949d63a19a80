package admit

import (
	"iter"
	"strings"
)

// The kinds of differences of two texts.
const (
	longer  = iota // the second one goes on after the first one, or is the same
	shorter        // the first one goes on after the second one
	apart          // neither is a beginning of the other one
	differences
)

const (
	head    = 4 // numbers before the cells of a pair
	maxCell = 63
)

// situation says that two lists of moves have led to the writers a and b, and that the cells of the second one are those of the first one, followed by rest.
type situation struct {
	a, b writer
	rest string
}

// difference says how the texts of two lists of moves differ: text follows the one that is a beginning of the other one.
type difference struct {
	kind int
	text string
}

// pair says of a situation how the texts of both lists of moves differ.
type pair struct {
	situation
	difference
}

// change leads from a situation to a successor: the first list of moves writes a text, and both lists may exchange their roles.
type change struct {
	to     situation
	text   string
	turned bool
}

// changes yields what leads from a situation to its successors.
func (g *guide) changes(s situation) iter.Seq[change] {
	return func(yield func(change) bool) {
		for _, m := range g[s.a] {
			if c, possible := s.by(m); possible && !yield(c) {
				return
			}
		}
	}
}

// by returns what a move of the first list changes, and whether its cells are possible.
func (s situation) by(m move) (change, bool) {
	if rest, ok := strings.CutPrefix(s.rest, m.cells); ok {
		return change{situation{m.to, s.b, rest}, m.text, false}, true
	}
	if more, ok := strings.CutPrefix(m.cells, s.rest); ok {
		return change{situation{s.b, m.to, more}, m.text, true}, true
	}
	return change{}, false
}

// level reports whether both lists of moves have the same cells.
func (s situation) level() bool {
	return s.rest == ""
}

// ends reports whether both texts may end here.
func (s situation) ends() bool {
	return s.level() && s.a.mayEnd() && s.b.mayEnd()
}

// after returns the difference after a change.
func (d difference) after(text string, turned bool) difference {
	d = d.and(text)
	if turned {
		return d.exchanged()
	}
	return d
}

// and returns the difference after the first list has written a text.
func (d difference) and(text string) difference {
	switch d.kind {
	case shorter:
		return difference{shorter, d.text + text}
	case apart:
		return d
	}
	if rest, ok := strings.CutPrefix(d.text, text); ok {
		return difference{longer, rest}
	}
	if more, ok := strings.CutPrefix(text, d.text); ok {
		return difference{shorter, more}
	}
	return difference{apart, ""}
}

// formed reports whether a difference has characters only where they say something, and where they have to be.
func (d difference) formed() bool {
	switch d.kind {
	case shorter:
		return d.text != ""
	case apart:
		return d.text == ""
	}
	return true
}

// exchanged returns the difference with the roles of both lists exchanged.
func (d difference) exchanged() difference {
	if d.text != "" {
		d.kind = longer + shorter - d.kind
	}
	return d
}

// exchanged returns a pair of a level situation with both lists exchanged.
func (p pair) exchanged() pair {
	return pair{situation{p.b, p.a, p.rest}, p.difference.exchanged()}
}

// possible reports whether a pair says nothing against the tables: where both texts may end, they have to be the same.
func (p pair) possible() bool {
	return !p.ends() || p.difference == difference{}
}

// numbers returns the form of a pair.
func (p pair) numbers() []int {
	l := []int{int(p.a), int(p.b), p.kind, len(p.rest)}
	for _, c := range []byte(p.rest + p.text) {
		l = append(l, int(c))
	}
	return l
}

// parse returns the pair that has a form, and whether there is one.
func parse(l []int) (pair, bool) {
	if len(l) < head || !below(l[0], writers) || !below(l[1], writers) || !below(l[2], differences) || !below(l[3], len(l)-head+1) {
		return pair{}, false
	}
	rest, cells := narrow(l[head:head+l[3]], filled)
	text, characters := narrow(l[head+l[3]:], character)
	p := pair{situation{writer(l[0]), writer(l[1]), rest}, difference{l[2], text}}
	return p, cells && characters && p.formed()
}

// narrow returns numbers as bytes, and whether all of them are good.
func narrow(l []int, good func(int) bool) (string, bool) {
	b := make([]byte, len(l))
	for i, n := range l {
		if !good(n) {
			return "", false
		}
		b[i] = byte(n)
	}
	return string(b), true
}

// filled reports whether a number is that of a cell with a dot.
func filled(n int) bool {
	return n >= 1 && n <= maxCell
}

// character reports whether a number is that of a valid character, coded.
func character(n int) bool {
	return below(n, languages*inLanguage) && n%inLanguage >= first && n%inLanguage <= last
}

// below reports whether a number is from 0 to one less than a bound.
func below(n, bound int) bool {
	return n >= 0 && n < bound
}

// right reports whether these pairs are a proof.
func right(g *guide, forms [][]int) bool {
	known := make(map[pair]bool, len(forms))
	for _, l := range forms {
		p, ok := parse(l)
		if !ok || !p.possible() {
			return false
		}
		known[p] = true
	}
	if !covers(known, pair{}) {
		return false
	}
	for p := range known {
		for c := range g.changes(p.situation) {
			if !covers(known, pair{c.to, p.difference.after(c.text, c.turned)}) {
				return false
			}
		}
	}
	return true
}

// covers reports whether pairs cover a pair.
func covers(known map[pair]bool, p pair) bool {
	has := func(p pair) bool {
		return known[p] || known[pair{p.situation, difference{apart, ""}}]
	}
	return has(p) || p.level() && has(p.exchanged())
}

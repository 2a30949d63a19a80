package back

import (
	"cmp"
	"maps"
	"slices"

	"dactyl/api"
)

// use is a piece, and where it is read on a way to the end of the cells.
type use struct {
	piece  piece
	places places
}

// knot is where readings stand in a piece: what is left of it, and how they stand after it.
type knot struct {
	rest string
	to   stand
}

// front is what is known after some characters: whether the text may end there, and for each knot how many cells there may be after its piece.
type front struct {
	ends  bool
	knots map[knot]places
}

// branch is a character with which a text goes on after so many others, and what is known before it.
type branch struct {
	before int
	next   api.Sym
	front  front
}

// search finds the texts of a reading.
type search struct {
	cells int
	uses  map[stand][]use
}

// texts returns the texts that have the cells, the first most ones in order.
func (r *reading) texts(most int) [][]api.Sym {
	if !r.leads(place{}) {
		return nil
	}
	s := search{len(r.cells), map[stand][]use{}}
	for w, l := range r.ways {
		s.uses[w.from] = append(s.uses[w.from], use{w.piece, placesOf(l...)})
	}
	return s.first(most)
}

// first returns the first texts in order, so many of them at most.
func (s search) first(most int) [][]api.Sym {
	var found [][]api.Sym
	var text []api.Sym
	var left []branch // the next one is the last one
	visit := func(f front) {
		if f.ends {
			found = append(found, slices.Clone(text))
		}
		for _, c := range slices.Backward(f.characters()) {
			left = append(left, branch{len(text), c, f})
		}
		// Each branch leads to a text, so that more of them are not needed.
		if spare := len(left) - (most - len(found)); spare > 0 {
			left = slices.Delete(left, 0, spare)
		}
	}
	begin := front{knots: map[knot]places{}}
	s.add(&begin, knot{}, placesOf(0))
	visit(begin)
	for len(left) > 0 {
		b := left[len(left)-1]
		left = left[:len(left)-1]
		text = append(text[:b.before], b.next)
		visit(s.after(b))
	}
	return found
}

// after returns what is known after the character of a branch.
func (s search) after(b branch) front {
	f := front{knots: map[knot]places{}}
	for k, l := range b.front.knots {
		if k.character() == b.next {
			s.add(&f, knot{k.rest[1:], k.to}, l)
		}
	}
	return f
}

// add adds a knot to what is known; if nothing is left of its piece, the pieces with which readings go on.
func (s search) add(f *front, k knot, l places) {
	if k.rest != "" {
		f.knots[k] = f.knots[k].union(l)
		return
	}
	f.ends = f.ends || l.has(s.cells)
	for _, u := range s.uses[k.to] {
		if next := l.past(u.places, u.piece.cells); !next.empty() {
			s.add(f, knot{u.piece.text, u.piece.to}, next)
		}
	}
}

// characters returns the characters with which texts go on, in order.
func (f front) characters() []api.Sym {
	next := map[api.Sym]bool{}
	for k := range f.knots {
		next[k.character()] = true
	}
	return slices.SortedFunc(maps.Keys(next), inOrder)
}

// character returns the next character of a knot.
func (k knot) character() api.Sym {
	return api.Sym{Lang: k.to.Lang, C: k.rest[0]}
}

// inOrder compares two characters.
func inOrder(a, b api.Sym) int {
	return cmp.Or(cmp.Compare(a.Lang, b.Lang), cmp.Compare(a.C, b.C))
}

package back

import (
	"dactyl/api"
	"dactyl/table"
)

const decimals = "0123456789"

// What has to come next in a text.
const (
	anything  = iota
	noLetter  // no letter of the language, as a rule for whole words was read
	letter    // a letter of the language, as a rule for beginnings of words was read
	character // a character of the language, as Switch was read
)

// The ways in which a rule is read.
const (
	sign    = iota // its text is no letters
	small          // its letters are small
	capital        // its first letter is a capital
)

// stand is how a reading stands after some cells: the state in which they were written, and what has to come next.
type stand struct {
	table.State
	next int
}

// place is a number of cells, and how a reading stands after them.
type place struct {
	at int
	stand
}

// piece is what a step has written: characters in the language of the stand after it (none by Switch), in so many cells.
type piece struct {
	text  string
	cells int
	to    stand
}

// way is a piece that is read in a stand.
type way struct {
	from  stand
	piece piece
}

// reading is what is known about some cells.
type reading struct {
	tables api.Tables
	cells  []byte
	far    int            // the most cells with which a translation was seen to begin
	known  map[place]bool // whether the cells end at or after a place as those of a text do
	ways   map[way][]int  // the places where a way begins that leads to such an end
}

// readingOf returns a reading of cells, or what is wrong with it.
func readingOf(t api.Tables, cells []byte) (*reading, api.Errno) {
	if e := table.Valid(t); e != api.OK {
		return nil, e
	}
	if len(cells) > api.MaxText {
		return nil, api.ErrLimit
	}
	return &reading{tables: t, cells: cells, known: map[place]bool{}, ways: map[way][]int{}}, api.OK
}

// leads reports whether the cells after a place can be the rest of a translation.
func (r *reading) leads(p place) bool {
	if leads, known := r.known[p]; known {
		return leads
	}
	leads := p.at == len(r.cells) && p.complete()
	r.offer(p, func(x piece) {
		if r.leads(place{p.at + x.cells, x.to}) {
			leads = true
			w := way{p.stand, x}
			r.ways[w] = append(r.ways[w], p.at)
		}
	})
	r.known[p] = leads
	return leads
}

// offer offers to a closure the pieces that the cells after a place can begin with.
func (r *reading) offer(p place, take func(piece)) {
	if p.complete() {
		if end, ok := r.past(p.at, r.tables.Switch); ok {
			take(piece{"", end - p.at, stand{table.State{Lang: 1 - p.Lang}, character}})
		}
	}
	if p.next != letter {
		r.offerDigits(p, take)
		r.offerRules(p, p.at, sign, take)
	}
	if p.next != noLetter {
		r.offerLetters(p, take)
	}
}

// offerDigits offers the digits.
func (r *reading) offerDigits(p place, take func(piece)) {
	at, ok := p.at, true
	if !p.Num {
		at, ok = r.past(at, r.tables.Num)
	}
	if !ok {
		return
	}
	to := stand{table.State{Lang: p.Lang, Num: true}, anything}
	for d := range len(decimals) {
		if end, ok := r.past(at, r.tables.Digits[d:d+1]); ok {
			take(piece{decimals[d : d+1], end - p.at, to})
		}
	}
}

// offerLetters offers the letters, small ones and after a capital.
func (r *reading) offerLetters(p place, take func(piece)) {
	at, ok := p.at, true
	if p.Num {
		at, ok = r.past(at, r.tables.End)
	}
	if !ok {
		return
	}
	r.offerRules(p, at, small, take)
	if at, ok = r.past(at, r.tables.Cap); ok {
		r.offerRules(p, at, capital, take)
	}
}

// offerRules offers what rules can have written whose cells stand at the number at, after the indicators at a place, if these rules are read in a way.
func (r *reading) offerRules(p place, at, how int, take func(piece)) {
	for _, rule := range r.tables.Lang[p.Lang].Rules {
		_, letters, _ := table.Letter(rule.Text[0])
		if letters == (how == sign) || letters && !p.allows(rule.Where) {
			continue
		}
		end, ok := r.past(at, rule.Cells)
		if !ok {
			continue
		}
		text := rule.Text
		if how == capital {
			text = string(text[0]-'a'+'A') + text[1:]
		}
		to := stand{table.State{Lang: p.Lang, In: letters}, following(rule.Where)}
		take(piece{text, end - p.at, to})
	}
}

// past returns the number of cells after some that stand at a number of them, and whether they do.
func (r *reading) past(at int, cells []byte) (int, bool) {
	n := 0
	for n < len(cells) && at+n < len(r.cells) && cells[n] == r.cells[at+n] {
		n++
	}
	// Whatever is tried at a place is a part of a step there, and some text
	// goes on with this step.
	r.far = max(r.far, at+n)
	return at + n, n == len(cells)
}

// complete reports whether a text may end in a stand, or go on in the other language.
func (s stand) complete() bool {
	return s.next == anything || s.next == noLetter
}

// allows reports whether a rule of letters may be read in a stand, by its context.
func (s stand) allows(where int) bool {
	switch where {
	case api.Word, api.Start:
		return !s.In
	case api.Inner:
		return s.In
	}
	return true
}

// following returns what has to come after a rule, by its context.
func following(where int) int {
	switch where {
	case api.Word:
		return noLetter
	case api.Start:
		return letter
	}
	return anything
}

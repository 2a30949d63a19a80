package automaton

import (
	"slices"

	"dactyl/api"
)

// space is what a search visits: next leads on from a place by a symbol, if there is a way.
type space[K any] struct {
	start   K
	symbols int
	accepts func(at K) bool
	next    func(at K, in int) (K, bool)
}

// pair has a state of each of two automata.
type pair [2]int

// row has the states to which the symbols lead, or none.
type row [maxSymbols]int

// table is an automaton in which a symbol leads from a state to one other at most.
type table struct {
	symbols int
	accept  []bool
	next    []row
}

// habit is what tells states apart: whether one accepts, and what the states are like to which it leads.
type habit struct {
	accept bool
	next   row
}

// way leads to a place: it is the way with the number before, and then a symbol.
type way[K any] struct {
	to         K
	before, in int
}

// first returns the first word that leads to a place that accepts; no place is found twice.
func first[K any](s space[K]) ([]int, bool) {
	ways := []way[K]{{to: s.start, before: none}}
	for i := 0; i < len(ways); i++ {
		at := ways[i].to
		if s.accepts(at) {
			return along(ways, i), true
		}
		for in := range s.symbols {
			if to, ok := s.next(at, in); ok {
				ways = append(ways, way[K]{to, i, in})
			}
		}
	}
	return nil, false
}

// along returns the symbols along the way with a number.
func along[K any](ways []way[K], number int) []int {
	var word []int
	for i := number; ways[i].before != none; i = ways[i].before {
		word = append(word, ways[i].in)
	}
	slices.Reverse(word)
	return word
}

// least returns the automaton in normal form for the words that lead to places that accept.
func least[K comparable](s space[K]) (Auto, api.Errno) {
	t, ok := explore(s)
	if !ok {
		return Auto{}, api.ErrLimit
	}
	return t.normal()
}

// explore returns the table whose states are the places in the order in which they are found, unless they are too many.
func explore[K comparable](s space[K]) (table, bool) {
	t := table{symbols: s.symbols}
	found := []K{s.start}
	number := map[K]int{s.start: 0}
	for i := 0; i < len(found); i++ {
		next := blank()
		for in := range s.symbols {
			to, ok := s.next(found[i], in)
			if !ok {
				continue
			}
			if _, known := number[to]; !known {
				if len(found) == api.MaxStates {
					return table{}, false
				}
				number[to] = len(found)
				found = append(found, to)
			}
			next[in] = number[to]
		}
		t.next = append(t.next, next)
		t.accept = append(t.accept, s.accepts(found[i]))
	}
	return t, true
}

// list returns the table of an automaton in normal form, whose list Accept it shares.
func list(a Auto) table {
	t := table{a.Symbols, a.Accept, make([]row, len(a.Accept))}
	for i := range t.next {
		t.next[i] = blank()
	}
	for _, e := range a.Edges {
		t.next[e.From][e.In] = e.To
	}
	return t
}

// complete returns the table with one more state, to which the symbols lead that led nowhere.
func (t table) complete() table {
	sink := len(t.next)
	full := table{t.symbols, append(slices.Clone(t.accept), false), append(slices.Clone(t.next), blank())}
	for s := range full.next {
		for in := range t.symbols {
			if full.next[s][in] == none {
				full.next[s][in] = sink
			}
		}
	}
	return full
}

// normal returns the automaton in normal form for a table.
func (t table) normal() (Auto, api.Errno) {
	twin := t.twins()
	small, ok := explore(space[int]{ // the state 0 is the first one that accepts its words, if any
		symbols: t.symbols,
		accepts: func(s int) bool { return t.accept[s] },
		next: func(s, in int) (int, bool) {
			to := lookup(twin, t.next[s][in])
			return to, to != none
		},
	})
	if !ok {
		return Auto{}, api.ErrLimit
	}
	a := Auto{Symbols: t.symbols, Accept: small.accept}
	for from, next := range small.next {
		for in, to := range next {
			if to != none {
				a.Edges = append(a.Edges, Edge{from, in, to})
			}
		}
	}
	if len(a.Edges) > api.MaxEdges {
		return Auto{}, api.ErrLimit
	}
	return a, api.OK
}

// twins returns for each state the first one that accepts the same words, or none, if it accepts no word.
func (t table) twins() []int {
	twin := slices.Repeat([]int{none}, len(t.next))
	for {
		// Each round tells more states apart, by words with one symbol more.
		// That which leads nowhere stands for all states that accept no word.
		firsts := map[habit]int{{next: blank()}: none}
		finer := make([]int, len(t.next))
		for s := range finer {
			h := habit{t.accept[s], blank()}
			for in := range t.symbols {
				h.next[in] = lookup(twin, t.next[s][in])
			}
			if _, known := firsts[h]; !known {
				firsts[h] = s
			}
			finer[s] = firsts[h]
		}
		if slices.Equal(finer, twin) {
			return twin
		}
		twin = finer
	}
}

// lookup returns the twin of a state, or none for none.
func lookup(twin []int, state int) int {
	if state == none {
		return none
	}
	return twin[state]
}

// blank returns the row in which no symbol leads anywhere.
func blank() row {
	var r row
	for in := range r {
		r[in] = none
	}
	return r
}

package automaton

import (
	"dactyl/api"
)

const inWord = 64 // bits of a word of a set

// set is a set of states.
type set [api.MaxStates / inWord]uint64

// net is an automaton without edges that read nothing, which may begin in several states.
type net struct {
	start, accept set
	reads         [][]arrow // for each symbol
}

// arrow leads from a state to several ones.
type arrow struct {
	from int
	to   set
}

// only returns the set of one state.
func only(state int) set {
	var s set
	s[state/inWord] = 1 << (state % inWord)
	return s
}

// has reports whether a state is in a set.
func (s set) has(state int) bool {
	return s[state/inWord]>>(state%inWord)&1 == 1
}

// with returns the states of two sets.
func (s set) with(other set) set {
	for i, word := range other {
		s[i] |= word
	}
	return s
}

// without returns the states of a set that are not in another one.
func (s set) without(other set) set {
	for i, word := range other {
		s[i] &^= word
	}
	return s
}

// meets reports whether two sets have a state in common.
func (s set) meets(other set) bool {
	for i, word := range other {
		if s[i]&word != 0 {
			return true
		}
	}
	return false
}

// forward returns the net of a valid automaton.
func forward(a Auto) net {
	reach := closures(a)
	n := net{start: reach[0], accept: accepting(a), reads: make([][]arrow, a.Symbols)}
	for _, e := range a.Edges {
		if e.In != nothing {
			n.reads[e.In] = append(n.reads[e.In], arrow{e.From, reach[e.To]})
		}
	}
	return n
}

// backward returns the net that reads words from the end; no edge of the automaton reads nothing.
func backward(a Auto) net {
	n := net{start: accepting(a), accept: only(0), reads: make([][]arrow, a.Symbols)}
	for _, e := range a.Edges {
		n.reads[e.In] = append(n.reads[e.In], arrow{e.To, only(e.From)})
	}
	return n
}

// accepting returns the set of the accepting states.
func accepting(a Auto) set {
	var s set
	for state, yes := range a.Accept {
		if yes {
			s = s.with(only(state))
		}
	}
	return s
}

// closures returns the closure of each state.
func closures(a Auto) []set {
	free := make([][]int, len(a.Accept))
	for _, e := range a.Edges {
		if e.In == nothing {
			free[e.From] = append(free[e.From], e.To)
		}
	}
	reach := make([]set, len(a.Accept))
	for s := range reach {
		var visit func(state int)
		visit = func(state int) {
			if reach[s].has(state) {
				return
			}
			reach[s] = reach[s].with(only(state))
			for _, to := range free[state] {
				visit(to)
			}
		}
		visit(s)
	}
	return reach
}

// step returns the states to which a symbol leads from those of a set.
func (n net) step(from set, in int) set {
	var to set
	for _, r := range n.reads[in] {
		if from.has(r.from) {
			to = to.with(r.to)
		}
	}
	return to
}

// accepts reports whether a set has an accepting state.
func (n net) accepts(s set) bool {
	return s.meets(n.accept)
}

// sets returns the sets of a net, of which each but the first one has a state.
func (n net) sets() space[set] {
	return space[set]{
		start:   n.start,
		symbols: len(n.reads),
		accepts: n.accepts,
		next: func(s set, in int) (set, bool) {
			to := n.step(s, in)
			return to, to != set{}
		},
	}
}

package contract

import (
	"bytes"
	"iter"
	"slices"

	"dactyl/api"
	"dactyl/table"
)

// text is a text and the tables by which it is written; both are valid.
type text struct {
	tables     api.Tables
	characters []api.Sym
}

// textOf returns a text with its tables, or what is wrong with them.
func textOf(t api.Tables, l []api.Sym) (text, api.Errno) {
	if e := table.Valid(t); e != api.OK {
		return text{}, e
	}
	// Only characters that are not valid leave a text without runs.
	if len(l) > 0 && len(table.Runs(l)) == 0 {
		return text{}, api.ErrArg
	}
	if len(l) > api.MaxSyms {
		return text{}, api.ErrLimit
	}
	return text{t, l}, api.OK
}

// move is a step of a path, with its place, and its index in table.Steps.
type move struct {
	at, index int
	step      table.Step
}

// choice returns the index of the step with which a path goes on, after so many of them, at a place; it may be one that no step has.
type choice func(before, at int, steps []table.Step) int

// trail is what a path leaves: its cells, the place of each of them, and the indices of its steps.
type trail struct {
	cells         []byte
	places, taken []int
}

// steps returns the steps at a place in a state.
func (x text) steps(s table.State, at int) []table.Step {
	// Characters farther away than those of a rule, and than the neighbours
	// that say whether a word goes on, make no difference but for the time
	// that table.Steps takes to look at them.
	from, to := max(0, at-1), min(len(x.characters), at+api.MaxPiece+1)
	return table.Steps(x.tables, s, x.characters[from:to], at-from)
}

// path yields the moves of a path, as far as there are steps that are chosen.
func (x text) path(choose choice) iter.Seq[move] {
	return func(yield func(move) bool) {
		var s table.State
		for at, before := 0, 0; at < len(x.characters); before++ {
			steps := x.steps(s, at)
			i := choose(before, at, steps)
			if i < 0 || i >= len(steps) || !yield(move{at, i, steps[i]}) {
				return
			}
			at, s = at+steps[i].Len, steps[i].To
		}
	}
}

// follow returns what the path of a choice leaves, and whether it comes to the end of the text.
func (x text) follow(choose choice) (trail, bool) {
	var p trail
	end := 0
	for m := range x.path(choose) {
		p.cells = append(p.cells, m.step.Cells...)
		p.places = append(p.places, slices.Repeat([]int{m.at}, len(m.step.Cells))...)
		p.taken = append(p.taken, m.index)
		end = m.at + m.step.Len
	}
	return p, end == len(x.characters)
}

// given returns what the path leaves whose steps and cells a translation names, and whether there is one.
func (x text) given(c Cert) (trail, bool) {
	p, ok := x.follow(named(c.Taken))
	return p, ok && len(p.taken) == len(c.Taken) && bytes.Equal(p.cells, c.Cells)
}

// named chooses the steps of a list of indices.
func named(taken []int) choice {
	return func(before, _ int, _ []table.Step) int {
		if before >= len(taken) {
			return none
		}
		return taken[before]
	}
}

// plain chooses the step without a rule, or with one of a single character for any context.
func (x text) plain(_, at int, steps []table.Step) int {
	// Steps with a rule are in the language of the character.
	rules := x.tables.Lang[x.characters[at].Lang].Rules
	return slices.IndexFunc(steps, func(s table.Step) bool {
		return s.Rule < 0 || s.Len == 1 && rules[s.Rule].Where == api.Any
	})
}

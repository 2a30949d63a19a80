package table

import (
	"slices"

	"dactyl/api"
)

const none = -1 // the rule of a step by no rule

// State is the state of writing: the language, whether digits are written, and whether the last character was a letter of this language.
type State struct {
	Lang    int
	Num, In bool
}

// Step is what can be written next: so many characters as Cells, by the rule Rule of the table of the language (-1: by none).
type Step struct {
	To    State
	Len   int
	Cells []byte
	Rule  int
}

// Steps returns what can be written next at a place of a text, in order.
func Steps(t api.Tables, s State, l []api.Sym, at int) []Step {
	if at < 0 || at >= len(l) || !language(s.Lang) || !every(l, valid) || Valid(t) != api.OK {
		return nil
	}
	c := l[at]
	switch {
	case c.Lang != s.Lang:
		return []Step{{To: State{Lang: c.Lang}, Cells: slices.Clone(t.Switch), Rule: none}}
	case digit(c.C):
		return []Step{number(t, s, c.C)}
	}
	return pieces(t, s, l, at)
}

// number returns the step that writes a digit.
func number(t api.Tables, s State, c byte) Step {
	var cells []byte
	if !s.Num {
		cells = append(cells, t.Num...)
	}
	cells = append(cells, t.Digits[c-'0'])
	return Step{State{Lang: s.Lang, Num: true}, 1, cells, none}
}

// pieces returns the steps by the rules that fit at a place where no digit is, in the language of the state.
func pieces(t api.Tables, s State, l []api.Sym, at int) []Step {
	_, letter, capital := Letter(l[at].C)
	var before []byte
	if letter && s.Num {
		before = append(before, t.End...)
	}
	if capital {
		before = append(before, t.Cap...)
	}
	to := State{Lang: s.Lang, In: letter}
	fits := fitting(l, at)
	var steps []Step
	for i, r := range t.Lang[s.Lang].Rules {
		if fits(r) {
			steps = append(steps, Step{to, len(r.Text), slices.Concat(before, r.Cells), i})
		}
	}
	return steps
}

// fitting returns what reports whether a rule of the language at a place fits there.
func fitting(l []api.Sym, at int) func(api.Rule) bool {
	begins := !inside(l, at)
	return func(r api.Rule) bool {
		if !stands(r.Text, l, at) {
			return false
		}
		ends := !inside(l, at+len(r.Text))
		switch r.Where {
		case api.Word:
			return begins && ends
		case api.Start:
			return begins && !ends
		case api.Inner:
			return !begins
		}
		return true
	}
}

// stands reports whether the text of a rule stands at a place in one language; only the first character may be a capital.
func stands(text string, l []api.Sym, at int) bool {
	if len(text) > len(l)-at {
		return false
	}
	for i, c := range l[at : at+len(text)] {
		if i == 0 {
			c.C, _, _ = Letter(c.C)
		}
		if c.C != text[i] || c.Lang != l[at].Lang {
			return false
		}
	}
	return true
}

// inside reports whether a word has characters both before a place and at it.
func inside(l []api.Sym, at int) bool {
	if at <= 0 || at >= len(l) || l[at-1].Lang != l[at].Lang {
		return false
	}
	_, before, _ := Letter(l[at-1].C)
	_, here, _ := Letter(l[at].C)
	return before && here
}

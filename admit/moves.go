package admit

import (
	"iter"
	"slices"

	"dactyl/api"
	"dactyl/table"
)

// The kinds of writers of a language, by what is written last.
const (
	free     = iota // nothing, or a character that is neither letter nor digit
	counting        // a digit
	inside          // a rule Any or Inner of letters
	whole           // a rule Word of letters
	begun           // a rule Start of letters
	switched        // Switch
	kinds           // the number of kinds
)

const (
	languages  = 2
	writers    = languages * kinds
	decimals   = "0123456789"
	inLanguage = 128 // characters of the language 1 are coded as bytes from here on
	first      = ' ' // the first character
	last       = '~' // the last character
)

// writer is a number that describes what a translation can go on with.
type writer int

// move is what a writer can go on with: cells, the characters that they write (coded), and the writer to which they lead.
type move struct {
	cells, text string
	to          writer
}

// guide has the moves of each writer, in order.
type guide [writers][]move

// guideOf returns the moves that valid tables allow.
func guideOf(t api.Tables) *guide {
	var g guide
	for w := range g {
		g[w] = slices.Collect(moves(t, writer(w)))
	}
	return &g
}

// moves yields the moves of a writer, in order.
func moves(t api.Tables, w writer) iter.Seq[move] {
	return func(yield func(move) bool) {
		if w.mayEnd() && !yield(move{string(t.Switch), "", w.other(switched)}) {
			return
		}
		for d := range len(decimals) {
			if w.kind() != begun && !yield(byDigit(t, w, d)) {
				return
			}
		}
		for _, r := range t.Lang[w.language()].Rules {
			for _, m := range byRule(t, w, r) {
				if !yield(m) {
					return
				}
			}
		}
	}
}

// byDigit returns the move of a writer that writes a digit.
func byDigit(t api.Tables, w writer, d int) move {
	before := string(t.Num)
	if w.kind() == counting {
		before = ""
	}
	return move{before + string(t.Digits[d:d+1]), w.code(decimals[d : d+1]), w.same(counting)}
}

// byRule returns the moves of a writer by a rule.
func byRule(t api.Tables, w writer, r api.Rule) []move {
	_, letters, _ := table.Letter(r.Text[0])
	switch {
	case !letters && w.kind() != begun:
		return []move{{string(r.Cells), w.code(r.Text), w.same(free)}}
	case !letters || !w.allows(r.Where):
		return nil
	}
	before := ""
	if w.kind() == counting {
		before = string(t.End)
	}
	capital := string(r.Text[0]-'a'+'A') + r.Text[1:]
	to := w.same(after(r.Where))
	return []move{
		{before + string(r.Cells), w.code(r.Text), to},
		{before + string(t.Cap) + string(r.Cells), w.code(capital), to},
	}
}

// after returns the kind of the writers that have written letters by a rule for a context.
func after(where int) int {
	switch where {
	case api.Word:
		return whole
	case api.Start:
		return begun
	}
	return inside
}

// allows reports whether a writer can go on with letters by a rule for a context.
func (w writer) allows(where int) bool {
	k := w.kind()
	switch where {
	case api.Word, api.Start:
		return k == free || k == counting || k == switched
	case api.Inner:
		return k == inside || k == begun
	}
	return k != whole
}

// mayEnd reports whether a text may end after a writer.
func (w writer) mayEnd() bool {
	return w.kind() != begun && w.kind() != switched
}

// language returns the language of a writer.
func (w writer) language() int {
	return int(w) / kinds
}

// kind returns the kind of a writer.
func (w writer) kind() int {
	return int(w) % kinds
}

// same returns the writer of a kind in the same language.
func (w writer) same(kind int) writer {
	return writer(w.language()*kinds + kind)
}

// other returns the writer of a kind in the other language.
func (w writer) other(kind int) writer {
	return writer((1-w.language())*kinds + kind)
}

// code returns characters of the language of a writer, coded.
func (w writer) code(text string) string {
	b := []byte(text)
	for i, c := range b {
		b[i] = code(w.language(), c)
	}
	return string(b)
}

// code returns the byte of a valid character; these bytes have the order of the characters.
func code(language int, c byte) byte {
	return byte(language*inLanguage) + c
}

// coded returns the bytes of characters, and whether all of them are valid.
func coded(l []api.Sym) (string, bool) {
	b := make([]byte, len(l))
	for i, c := range l {
		if c.Lang < 0 || c.Lang >= languages || c.C < first || c.C > last {
			return "", false
		}
		b[i] = code(c.Lang, c.C)
	}
	return string(b), true
}

// decoded returns the characters of bytes.
func decoded(text string) []api.Sym {
	var l []api.Sym
	for i := range len(text) {
		l = append(l, api.Sym{Lang: int(text[i]) / inLanguage, C: text[i] % inLanguage})
	}
	return l
}

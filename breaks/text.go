package breaks

import (
	"iter"

	"dactyl/api"
)

// Limits of words and lines.
const (
	maxWords     = 512
	maxPieces    = 16
	maxPiece     = 4096
	maxLineWidth = 512
)

const (
	blank   = 1
	hyphen  = 1
	perLine = 1 << 32 // more than all squares together
)

// place is where a line begins or ends: a word and one of its pieces; the end is the number of words and 0.
type place [2]int

// text is words that are valid, and a width for their lines.
type text struct {
	words []Word
	width int
}

func textOf(l []Word, width int) (text, api.Errno) {
	if len(l) > maxWords || !every(l, isWord) || width < 1 || width > maxLineWidth {
		return text{}, api.ErrArg
	}
	return text{l, width}, api.OK
}

func isWord(w Word) bool {
	pieces := len(w.Widths)
	if pieces < 1 || pieces > maxPieces {
		return false
	}
	for i, row := range w.Widths {
		if len(row) != pieces-i || !every(row, isWidth) {
			return false
		}
	}
	return true
}

func isWidth(n int) bool {
	return n >= 0 && n <= maxPiece
}

func every[T any](l []T, is func(T) bool) bool {
	for _, x := range l {
		if !is(x) {
			return false
		}
	}
	return true
}

func (t text) end() place {
	return place{len(t.words), 0}
}

// places yields all places but the end, the last one first, as the cost of each depends on later ones.
func (t text) places() iter.Seq[place] {
	return func(yield func(place) bool) {
		for w := len(t.words) - 1; w >= 0; w-- {
			for i := len(t.words[w].Widths) - 1; i >= 0; i-- {
				if !yield(place{w, i}) {
					return
				}
			}
		}
	}
}

// lines yields the end and the cost of each line that begins at a place, in the order of their ends.
func (t text) lines(begin place) iter.Seq2[place, int] {
	return func(yield func(place, int) bool) {
		offer := func(end place, used int) bool {
			return used > t.width || yield(end, t.cost(end, used))
		}
		used, from := -blank, begin[1] // there is no blank before the first word
		for w := begin[0]; w < len(t.words); w++ {
			used += blank
			last := len(t.words[w].Widths[from]) - 1
			for k, width := range t.words[w].Widths[from][:last] {
				if !offer(place{w, from + k + 1}, used+width+hyphen) {
					return
				}
			}
			used += t.words[w].Widths[from][last]
			if used > t.width || !offer(place{w + 1, 0}, used) {
				return
			}
			from = 0
		}
	}
}

// cost returns the cost of a line by its end and by the cells that it uses.
func (t text) cost(end place, used int) int {
	if end == t.end() {
		return perLine
	}
	free := t.width - used
	return perLine + free*free
}

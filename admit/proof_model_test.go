package admit

import (
	"fmt"
	"slices"
	"strings"

	"dactyl/api"
)

// modelMove is a move of the chapter: cells and characters as numbers, and the writer to which it leads.
type modelMove struct {
	cells, text []int
	to          int
}

// ints returns bytes as numbers.
func ints(l ...[]byte) []int {
	var n []int
	for _, c := range slices.Concat(l...) {
		n = append(n, int(c))
	}
	return n
}

// among reports whether a number is one of several.
func among(n int, l ...int) bool {
	return slices.Contains(l, n)
}

// movesModel returns the moves of a writer, as the chapter lists them.
func movesModel(t api.Tables, w int) []modelMove {
	lang, kind := w/6, w%6
	chars := func(s string) []int {
		var l []int
		for i := range len(s) {
			l = append(l, 128*lang+int(s[i]))
		}
		return l
	}
	var l []modelMove
	if kind <= 3 {
		l = append(l, modelMove{ints(t.Switch), nil, 6*(1-lang) + 5})
	}
	if kind != 4 {
		for d := range 10 {
			cells := ints(t.Num, t.Digits[d:d+1])
			if kind == 1 {
				cells = ints(t.Digits[d : d+1])
			}
			l = append(l, modelMove{cells, chars(figures[d : d+1]), 6*lang + 1})
		}
	}
	for _, r := range t.Lang[lang].Rules {
		if !strings.Contains(alphabet, r.Text[:1]) {
			if kind != 4 {
				l = append(l, modelMove{ints(r.Cells), chars(r.Text), 6 * lang})
			}
			continue
		}
		if kind == 3 || among(r.Where, api.Word, api.Start) && !among(kind, 0, 1, 5) || r.Where == api.Inner && !among(kind, 2, 4) {
			continue
		}
		to := 6*lang + map[int]int{api.Any: 2, api.Inner: 2, api.Word: 3, api.Start: 4}[r.Where]
		var end []byte
		if kind == 1 {
			end = t.End
		}
		l = append(l, modelMove{ints(end, r.Cells), chars(r.Text), to})
		l = append(l, modelMove{ints(end, t.Cap, r.Cells), chars(strings.ToUpper(r.Text[:1]) + r.Text[1:]), to})
	}
	return l
}

// model has the moves of all writers.
type model [12][]modelMove

// modelOf returns the model of tables.
func modelOf(t api.Tables) model {
	var m model
	for w := range m {
		m[w] = movesModel(t, w)
	}
	return m
}

// begins reports whether a list begins with another one.
func begins(l, with []int) bool {
	return len(l) >= len(with) && slices.Equal(l[:len(with)], with)
}

// split returns the cells and the characters of a pair that has the form of one.
func split(p []int) ([]int, []int) {
	return p[4 : 4+p[3]], p[4+p[3]:]
}

// pairOf returns a pair: that the first text is one, and the second one another.
func pairOf(a, b int, cells, one, other []int, apart bool) []int {
	p := slices.Concat([]int{a, b, 2, len(cells)}, cells)
	switch {
	case apart:
		return p
	case begins(other, one):
		p[2] = 0
		return append(p, other[len(one):]...)
	case begins(one, other):
		p[2] = 1
		return append(p, one[len(other):]...)
	}
	return p
}

// successors returns the successors of a pair.
func (m model) successors(p []int) [][]int {
	d, text := split(p)
	var l [][]int
	for _, v := range m[p[0]] {
		// Both texts from where they differ on.
		one, other := v.text, text
		if p[2] == 1 {
			one, other = slices.Concat(text, v.text), nil
		}
		switch {
		case begins(d, v.cells):
			l = append(l, pairOf(v.to, p[1], d[len(v.cells):], one, other, p[2] == 2))
		case begins(v.cells, d):
			l = append(l, pairOf(p[1], v.to, v.cells[len(d):], other, one, p[2] == 2))
		}
	}
	return l
}

// situations returns how many situations there are, or one more than so many.
func (m model) situations(most int) int {
	known := map[string]bool{"[0 0 2 0]": true}
	l := [][]int{{0, 0, 2, 0}}
	for i := 0; i < len(l) && len(l) <= most; i++ {
		for _, p := range m.successors(l[i]) {
			if k := fmt.Sprint(p); !known[k] {
				known[k] = true
				l = append(l, p)
			}
		}
	}
	return min(len(l), most+1)
}

// formed reports whether a list has the form of a pair with possible elements.
func formed(p []int) bool {
	if len(p) < 4 || p[0] < 0 || p[0] > 11 || p[1] < 0 || p[1] > 11 || p[2] < 0 || p[2] > 2 || p[3] < 0 || p[3] > len(p)-4 {
		return false
	}
	cells, text := split(p)
	for _, c := range cells {
		if c < 1 || c > 63 {
			return false
		}
	}
	for _, c := range text {
		if !(c >= 32 && c <= 126) && !(c >= 128+32 && c <= 128+126) {
			return false
		}
	}
	return !(p[2] == 1 && len(text) == 0) && !(p[2] == 2 && len(text) > 0)
}

// exchange returns a level pair with both lists exchanged.
func exchange(p []int) []int {
	q := slices.Clone(p)
	q[0], q[1] = p[1], p[0]
	if len(p) > 4 {
		q[2] = 1 - p[2]
	}
	return q
}

// unknown returns a pair of the same situation with the kind 2.
func unknown(p []int) []int {
	return append([]int{p[0], p[1], 2}, p[3:4+p[3]]...)
}

// right reports whether a list of pairs is a proof, as the chapter says it.
func (m model) right(l [][]int) bool {
	known := map[string]bool{}
	for _, p := range l {
		known[fmt.Sprint(p)] = true
	}
	covers := func(p []int) bool {
		has := func(p []int) bool { return known[fmt.Sprint(p)] || known[fmt.Sprint(unknown(p))] }
		return has(p) || p[3] == 0 && has(exchange(p))
	}
	for _, p := range l {
		if !formed(p) {
			return false
		}
	}
	for _, p := range l {
		ends := p[3] == 0 && p[0]%6 <= 3 && p[1]%6 <= 3
		if ends && (p[2] != 0 || len(p) > 4) {
			return false
		}
		for _, q := range m.successors(p) {
			if !covers(q) {
				return false
			}
		}
	}
	return covers([]int{0, 0, 0, 0})
}

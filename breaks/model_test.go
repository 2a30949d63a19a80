package breaks

import (
	"math/rand"
	"slices"

	"dactyl/api"
)

// whole returns words of one piece each.
func whole(widths ...int) []Word {
	var l []Word
	for _, width := range widths {
		l = append(l, Word{[][]int{{width}}})
	}
	return l
}

// pieces returns a word whose pieces have together the sum of their widths.
func pieces(widths ...int) Word {
	var w Word
	for i := range widths {
		sum := 0
		var row []int
		for _, width := range widths[i:] {
			sum += width
			row = append(row, sum)
		}
		w.Widths = append(w.Widths, row)
	}
	return w
}

// anyWord returns a word with random widths, which need not be sums.
func anyWord(r *rand.Rand, most, widest int) Word {
	count := 1 + r.Intn(most)
	w := Word{make([][]int, count)}
	for i := range count {
		w.Widths[i] = make([]int, count-i)
		for k := range w.Widths[i] {
			w.Widths[i][k] = r.Intn(widest + 1)
		}
	}
	return w
}

func anyWords(r *rand.Rand, count, most, widest int) []Word {
	l := make([]Word, count)
	for i := range l {
		l[i] = anyWord(r, most, widest)
	}
	return l
}

func copiedWords(l []Word) []Word {
	var words []Word
	for _, w := range l {
		words = append(words, Word{copiedRows(w.Widths)})
	}
	return words
}

func copiedRows(l [][]int) [][]int {
	var rows [][]int
	for _, row := range l {
		rows = append(rows, slices.Clone(row))
	}
	return rows
}

func copiedCert(c Cert) Cert {
	return Cert{slices.Clone(c.Ends), copiedRows(c.Least)}
}

func equalCerts(c, d Cert) bool {
	return slices.Equal(c.Ends, d.Ends) && slices.EqualFunc(c.Least, d.Least, slices.Equal[[]int])
}

// allPlaces returns all places with the end, in order.
func allPlaces(l []Word) [][2]int {
	var places [][2]int
	for w, word := range l {
		for i := range word.Widths {
			places = append(places, [2]int{w, i})
		}
	}
	return append(places, [2]int{len(l), 0})
}

// lineWidth returns the width of a line by the words of the chapter.
func lineWidth(l []Word, from, to [2]int) int {
	first := l[from[0]].Widths
	if from[0] == to[0] {
		return first[from[1]][to[1]-from[1]-1] + 1
	}
	width := first[from[1]][len(first)-from[1]-1]
	for _, word := range l[from[0]+1 : to[0]] {
		width += 1 + word.Widths[0][len(word.Widths)-1]
	}
	if to[1] > 0 {
		width += 1 + l[to[0]].Widths[0][to[1]-1] + 1
	}
	return width
}

// divisions returns the ends of all lists of lines from a place (its number in allPlaces) to the end.
func divisions(l []Word, width, from int) [][][2]int {
	places := allPlaces(l)
	if from == len(places)-1 {
		return [][][2]int{nil}
	}
	var all [][][2]int
	for to := from + 1; to < len(places); to++ {
		if lineWidth(l, places[from], places[to]) > width {
			continue
		}
		for _, rest := range divisions(l, width, to) {
			all = append(all, append([][2]int{places[to]}, rest...))
		}
	}
	return all
}

// costOf returns the cost of lines by the words of the chapter.
func costOf(l []Word, width int, from [2]int, ends [][2]int) int {
	cost := 0
	for i, to := range ends {
		cost += 1 << 32
		if i < len(ends)-1 {
			free := width - lineWidth(l, from, to)
			cost += free * free
		}
		from = to
	}
	return cost
}

// compareEnds says which ends are earlier.
func compareEnds(a, b [][2]int) int {
	return slices.CompareFunc(a, b, func(p, q [2]int) int { return slices.Compare(p[:], q[:]) })
}

// bestOf returns of all lists of lines from a place the one with the least cost, and of several the one whose lines end latest.
func bestOf(l []Word, width, from int) ([][2]int, int) {
	begin := allPlaces(l)[from]
	var best [][2]int
	least := -1
	for _, ends := range divisions(l, width, from) {
		cost := costOf(l, width, begin, ends)
		if least < 0 || cost < least || cost == least && compareEnds(ends, best) > 0 {
			best, least = ends, cost
		}
	}
	return best, least
}

// model returns what Fill has to return for words and a width that are valid, by all lists of lines.
func model(l []Word, width int) (Cert, api.Errno) {
	least := make([][]int, len(l))
	for from, p := range allPlaces(l) {
		if p[0] < len(l) {
			_, cost := bestOf(l, width, from)
			least[p[0]] = append(least[p[0]], cost)
		}
	}
	ends, cost := bestOf(l, width, 0)
	if cost < 0 {
		return Cert{}, api.ErrWide
	}
	return Cert{ends, least}, api.OK
}

// longModel is the model for longer texts: it goes from the end to the beginning, over all pairs of places.
func longModel(l []Word, width int) (Cert, api.Errno) {
	places := allPlaces(l)
	end := len(places) - 1
	cost, next := make([]int, end+1), make([]int, end+1)
	least := make([][]int, len(l))
	for from := end - 1; from >= 0; from-- {
		cost[from] = -1
		for to := end; to > from; to-- {
			used := lineWidth(l, places[from], places[to])
			if used > width || cost[to] < 0 {
				continue
			}
			sum := 1<<32 + cost[to]
			if to < end {
				sum += (width - used) * (width - used)
			}
			if cost[from] < 0 || sum < cost[from] {
				cost[from], next[from] = sum, to
			}
		}
		w := places[from][0]
		least[w] = append([]int{cost[from]}, least[w]...)
	}
	if cost[0] < 0 {
		return Cert{}, api.ErrWide
	}
	var ends [][2]int
	for at := 0; at < end; {
		at = next[at]
		ends = append(ends, places[at])
	}
	return Cert{ends, least}, api.OK
}

// joined returns a word without the division point before a piece.
func joined(w Word, piece int) Word {
	var v Word
	for i, row := range w.Widths {
		if i == piece {
			continue
		}
		var kept []int
		for k, width := range row {
			if i+k != piece-1 {
				kept = append(kept, width)
			}
		}
		v.Widths = append(v.Widths, kept)
	}
	return v
}

// fits reports whether pages fit, by the words of the chapter.
func fits(keep []bool, lines int, l []int) bool {
	page := -1 // of each line, the page that it stands on
	held := make([]int, len(l))
	for i := range keep {
		if slices.Contains(l, i) {
			page++
			if page > 0 && keep[i] {
				return false
			}
		}
		if page < 0 || page >= len(l) || l[page] > i {
			return false
		}
		held[page]++
	}
	for _, count := range held {
		if count < 1 || count > lines {
			return false
		}
	}
	return true
}

// allPages returns all lists of pages that fit.
func allPages(keep []bool, lines int) [][]int {
	var all [][]int
	for set := range 1 << len(keep) {
		var l []int
		for i := range keep {
			if set>>i&1 == 1 {
				l = append(l, i)
			}
		}
		if fits(keep, lines, l) {
			all = append(all, l)
		}
	}
	return all
}

// pagesModel returns what Pages has to return, by all lists of pages that fit.
func pagesModel(keep []bool, lines int) ([]int, api.Errno) {
	all := allPages(keep, lines)
	if len(all) == 0 {
		return nil, api.ErrWide
	}
	return slices.MinFunc(all, func(a, b []int) int {
		if len(a) != len(b) {
			return len(a) - len(b)
		}
		return slices.Compare(b, a)
	}), api.OK
}

func anyKeep(r *rand.Rand, count, ofTen int) []bool {
	keep := make([]bool, count)
	for i := range keep {
		keep[i] = r.Intn(10) < ofTen
	}
	return keep
}

package breaks

// none is the cost of a place from which no lines lead to the end.
const none = -1

// least returns the least cost of each place from which lines lead to the end.
func (t text) least() map[place]int {
	least := map[place]int{t.end(): 0}
	for p := range t.places() {
		if cost, _, ok := t.best(least, p); ok {
			least[p] = cost
		}
	}
	return least
}

// best returns the least cost of a place by the costs of later ones, and of the lines that lead to it the latest end.
func (t text) best(least map[place]int, begin place) (cost int, end place, ok bool) {
	for e, c := range t.lines(begin) {
		rest, leads := least[e]
		if leads && (!ok || c+rest <= cost) {
			cost, end, ok = c+rest, e, true
		}
	}
	return cost, end, ok
}

// ends returns the ends of the lines with the least cost, each of them as late as possible.
func (t text) ends(least map[place]int) [][2]int {
	var ends [][2]int
	for at := (place{}); at != t.end(); {
		_, at, _ = t.best(least, at)
		ends = append(ends, at)
	}
	return ends
}

// rows returns the least costs of all places by words and pieces.
func (t text) rows(least map[place]int) [][]int {
	rows := make([][]int, len(t.words))
	for w, word := range t.words {
		rows[w] = make([]int, len(word.Widths))
		for i := range rows[w] {
			cost, ok := least[place{w, i}]
			if !ok {
				cost = none
			}
			rows[w][i] = cost
		}
	}
	return rows
}

// given returns the costs that rows say, and whether there is one for each place.
func (t text) given(rows [][]int) (map[place]int, bool) {
	least := map[place]int{t.end(): 0}
	if len(rows) != len(t.words) {
		return nil, false
	}
	for w, row := range rows {
		if len(row) != len(t.words[w].Widths) {
			return nil, false
		}
		for i, cost := range row {
			if cost != none {
				least[place{w, i}] = cost
			}
		}
	}
	return least, true
}

// solved reports whether each cost is the least one by the costs of later places, so that all of them are right.
func (t text) solved(least map[place]int) bool {
	for p := range t.places() {
		cost, _, ok := t.best(least, p)
		given, leads := least[p]
		if ok != leads || cost != given {
			return false
		}
	}
	return true
}

// total returns the cost of the lines with these ends, and whether they are lines from the first place to the end.
func (t text) total(ends [][2]int) (int, bool) {
	total, at := 0, place{}
	for _, end := range ends {
		cost, ok := t.line(at, end)
		if !ok {
			return 0, false
		}
		total, at = total+cost, end
	}
	return total, at == t.end()
}

// line returns the cost of the line between two places, and whether there is one.
func (t text) line(begin, end place) (int, bool) {
	for e, cost := range t.lines(begin) {
		if e == end {
			return cost, true
		}
	}
	return 0, false
}

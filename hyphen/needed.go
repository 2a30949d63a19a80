package hyphen

// top is what a place has of the patterns: the greatest digit, the pattern that has it, and the greatest digit of all others, which is the value without this pattern. The zero top is that of a place without digits, as none counts as 0.
type top struct {
	value, owner, without int
}

// with returns what a place has with one more digit of a pattern.
func (t top) with(index, digit int) top {
	switch {
	case index == t.owner:
		t.value = max(t.value, digit)
	case digit > t.value:
		t = top{value: digit, owner: index, without: t.value}
	default:
		t.without = max(t.without, digit)
	}
	return t
}

// mark sets needed for the patterns without which a word would have other Points: a place keeps its value without a pattern that is not its owner.
func (p patterns) mark(word string, needed []bool) {
	tops := make([]top, len(word)+1)
	p.lay(word, func(index, place, digit int) {
		tops[place] = tops[place].with(index, digit)
	})
	for place := edge; place <= len(word)-edge; place++ {
		t := tops[place]
		if odd(t.value) != odd(t.without) {
			needed[t.owner] = true
		}
	}
}

package breaks

import "dactyl/api"

// Limits of pages.
const (
	maxLines = 1000
	maxKeep  = 4096
)

// fewest lets each page be followed by the latest one that it can: from a later line no fewer lines can be reached, so that there are no fewer pages.
func fewest(keep []bool, lines int) ([]int, api.Errno) {
	if len(keep) == 0 {
		return nil, api.OK
	}
	pages := []int{0}
	for first := 0; len(keep)-first > lines; {
		next := first + lines
		for next > first && keep[next] {
			next--
		}
		if next == first {
			return nil, api.ErrWide
		}
		pages = append(pages, next)
		first = next
	}
	return pages, api.OK
}

// fit reports whether these first lines are those of pages that fit.
func fit(keep []bool, lines int, l []int) bool {
	for i, first := range l {
		if i == 0 && first != 0 || i > 0 && (first <= l[i-1] || first-l[i-1] > lines || first >= len(keep) || keep[first]) {
			return false
		}
	}
	if len(l) == 0 {
		return len(keep) == 0
	}
	return l[len(l)-1] < len(keep) && len(keep)-l[len(l)-1] <= lines
}

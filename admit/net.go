package admit

const mostSituations = 4096

// link leads from a situation to a successor, by its number.
type link struct {
	to     int
	text   string
	turned bool
}

// net has the situations of tables, the one of the beginning first, and the links from each of them.
type net struct {
	situations []situation
	links      [][]link
}

// explore returns the situations of tables, and whether there are not too many.
func explore(g *guide) (net, bool) {
	n := net{situations: []situation{{}}}
	numbers := map[situation]int{{}: 0}
	for i := 0; i < len(n.situations); i++ {
		var out []link
		for c := range g.changes(n.situations[i]) {
			number, known := numbers[c.to]
			if !known {
				number = len(n.situations)
				if number == mostSituations {
					return net{}, false
				}
				numbers[c.to] = number
				n.situations = append(n.situations, c.to)
			}
			out = append(out, link{number, c.text, c.turned})
		}
		n.links = append(n.links, out)
	}
	return n, true
}

// open reports of each situation whether one that ends can be reached from it.
func (n net) open() []bool {
	before := make([][]int, len(n.situations))
	for i, out := range n.links {
		for _, k := range out {
			before[k.to] = append(before[k.to], i)
		}
	}
	open := make([]bool, len(n.situations))
	var visit func(i int)
	visit = func(i int) {
		if open[i] {
			return
		}
		open[i] = true
		for _, k := range before[i] {
			visit(k)
		}
	}
	for i, s := range n.situations {
		if s.ends() {
			visit(i)
		}
	}
	return open
}

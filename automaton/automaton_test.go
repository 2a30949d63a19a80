package automaton

import (
	"math"
	"math/rand"
	"reflect"
	"slices"
	"strconv"
	"strings"
	"testing"

	"dactyl/api"
)

const (
	mostSymbols = 64
	mostStates  = 256
	mostEdges   = 4096
)

// build returns an automaton with these accepting states.
func build(symbols, states int, accept []int, edges ...Edge) Auto {
	a := Auto{Symbols: symbols, Accept: make([]bool, states), Edges: edges}
	for _, s := range accept {
		a.Accept[s] = true
	}
	return a
}

// copied returns a copy of an automaton.
func copied(a Auto) Auto {
	return Auto{a.Symbols, slices.Clone(a.Accept), slices.Clone(a.Edges)}
}

// same reports whether two automata are equal.
func same(a, b Auto) bool {
	return a.Symbols == b.Symbols && slices.Equal(a.Accept, b.Accept) && slices.Equal(a.Edges, b.Edges)
}

// fromEnd returns an automaton for the words whose k-th symbol from the end is 1; its sets are 2 to the power of k.
func fromEnd(symbols, k int) Auto {
	a := build(symbols, k+1, []int{k}, Edge{0, 1, 1})
	for x := range symbols {
		a.Edges = append(a.Edges, Edge{0, x, 0})
		for s := 1; s < k; s++ {
			a.Edges = append(a.Edges, Edge{s, x, s + 1})
		}
	}
	return a
}

// fromBegin returns an automaton for the words whose k-th symbol is 1.
func fromBegin(symbols, k int) Auto {
	a := build(symbols, k+1, []int{k}, Edge{k - 1, 1, k})
	for x := range symbols {
		a.Edges = append(a.Edges, Edge{k, x, k})
		for s := range k - 1 {
			a.Edges = append(a.Edges, Edge{s, x, s + 1})
		}
	}
	return a
}

// chain returns an automaton for the one word of n symbols 0.
func chain(symbols, n int) Auto {
	a := build(symbols, n+1, []int{n})
	for s := range n {
		a.Edges = append(a.Edges, Edge{s, 0, s + 1})
	}
	return a
}

// cycle returns an automaton for the words whose length has a remainder after division by n.
func cycle(symbols, n, remainder int) Auto {
	a := build(symbols, n, []int{remainder})
	for s := range n {
		for x := range symbols {
			a.Edges = append(a.Edges, Edge{s, x, (s + 1) % n})
		}
	}
	return a
}

// anyAuto returns an automaton with at most so many symbols, states and edges.
func anyAuto(r *rand.Rand, symbols, states, edges int) Auto {
	a := Auto{Symbols: 1 + r.Intn(symbols), Accept: make([]bool, 1+r.Intn(states))}
	for s := range a.Accept {
		a.Accept[s] = r.Intn(4) == 0
	}
	for range r.Intn(edges + 1) {
		e := Edge{r.Intn(len(a.Accept)), r.Intn(a.Symbols), r.Intn(len(a.Accept))}
		if r.Intn(6) == 0 {
			e.In = -1
		}
		a.Edges = append(a.Edges, e)
	}
	return a
}

// tangled returns an automaton of two symbols with about 256 sets.
func tangled(r *rand.Rand) Auto {
	a := fromEnd(2, 8+r.Intn(2))
	for range 1 + r.Intn(2) {
		a.Edges = append(a.Edges, Edge{r.Intn(len(a.Accept)), r.Intn(3) - 1, r.Intn(len(a.Accept))})
	}
	for range r.Intn(2) {
		a.Edges[r.Intn(len(a.Edges))].To = r.Intn(len(a.Accept))
	}
	return a
}

// steady returns an automaton of two symbols that both lead from each state to just one.
func steady(r *rand.Rand, states int) Auto {
	a := build(2, states, []int{r.Intn(states)})
	for s := range states {
		a.Edges = append(a.Edges, Edge{s, 0, r.Intn(states)}, Edge{s, 1, r.Intn(states)})
	}
	return a
}

// upTo returns all words of at most so many symbols in their order.
func upTo(symbols, longest int) [][]int {
	l := [][]int{{}}
	for i := 0; len(l[i]) < longest; i++ {
		for x := range symbols {
			l = append(l, append(slices.Clone(l[i]), x))
		}
	}
	return l
}

// accepted goes along all ways from a state that read a word.
func accepted(a Auto, from int, word []int) bool {
	type place struct{ state, at int }
	seen := map[place]bool{}
	var walk func(p place) bool
	walk = func(p place) bool {
		if seen[p] {
			return false
		}
		seen[p] = true
		if p.at == len(word) && a.Accept[p.state] {
			return true
		}
		for _, e := range a.Edges {
			if e.From == p.state && e.In == -1 && walk(place{e.To, p.at}) {
				return true
			}
			if e.From == p.state && e.In >= 0 && p.at < len(word) && e.In == word[p.at] && walk(place{e.To, p.at + 1}) {
				return true
			}
		}
		return false
	}
	return walk(place{from, 0})
}

// firstOf returns the first of some words that is as it should be.
func firstOf(words [][]int, good func(word []int) bool) ([]int, bool) {
	for _, w := range words {
		if good(w) {
			return w, true
		}
	}
	return nil, false
}

// named returns a string that tells a set of states from all others.
func named(states map[int]bool) string {
	l := []int{}
	for s := range states {
		l = append(l, s)
	}
	slices.Sort(l)
	var name strings.Builder
	for _, s := range l {
		name.WriteString(strconv.Itoa(s) + " ")
	}
	return name.String()
}

// closed adds all states to which edges that read nothing lead.
func closed(a Auto, states map[int]bool) map[int]bool {
	all := map[int]bool{}
	for s := range states {
		all[s] = true
	}
	for more := true; more; {
		more = false
		for _, e := range a.Edges {
			if e.In == -1 && all[e.From] && !all[e.To] {
				all[e.To] = true
				more = true
			}
		}
	}
	return all
}

// countSets counts the sets that are found from a first one on; follow leads on from each by a symbol.
func countSets(symbols int, start map[int]bool, follow func(s map[int]bool, x int) map[int]bool) int {
	seen := map[string]bool{named(start): true}
	found := []map[int]bool{start}
	for i := 0; i < len(found); i++ {
		for x := range symbols {
			to := follow(found[i], x)
			if len(to) > 0 && !seen[named(to)] {
				seen[named(to)] = true
				found = append(found, to)
			}
		}
	}
	return len(found)
}

// setsOf counts the sets of an automaton.
func setsOf(a Auto) int {
	return countSets(a.Symbols, closed(a, map[int]bool{0: true}), func(s map[int]bool, x int) map[int]bool {
		to := map[int]bool{}
		for _, e := range a.Edges {
			if e.In == x && s[e.From] {
				to[e.To] = true
			}
		}
		return closed(a, to)
	})
}

// turnedSets counts the sets of P5.8 for an automaton in normal form.
func turnedSets(a Auto) int {
	start := map[int]bool{}
	for s, yes := range a.Accept {
		if yes {
			start[s] = true
		}
	}
	return countSets(a.Symbols, start, func(s map[int]bool, x int) map[int]bool {
		to := map[int]bool{}
		for _, e := range a.Edges {
			if e.In == x && s[e.To] {
				to[e.From] = true
			}
		}
		return to
	})
}

// pairsOf counts the pairs of P5.5 for two automata in normal form.
func pairsOf(a, b Auto) int {
	found := [][2]int{{0, 0}}
	for i := 0; i < len(found); i++ {
		for _, e := range a.Edges {
			for _, f := range b.Edges {
				to := [2]int{e.To, f.To}
				if found[i] == [2]int{e.From, f.From} && e.In == f.In && !slices.Contains(found, to) {
					found = append(found, to)
				}
			}
		}
	}
	return len(found)
}

// targets returns for each state the states to which its edges lead, by their symbols.
func targets(a Auto) []map[int]int {
	l := make([]map[int]int, len(a.Accept))
	for s := range l {
		l[s] = map[int]int{}
	}
	for _, e := range a.Edges {
		l[e.From][e.In] = e.To
	}
	return l
}

// fruitful returns the states from which an accepting one can be reached.
func fruitful(a Auto) map[int]bool {
	all := map[int]bool{}
	for s, yes := range a.Accept {
		if yes {
			all[s] = true
		}
	}
	for range a.Accept {
		for _, e := range a.Edges {
			if all[e.To] {
				all[e.From] = true
			}
		}
	}
	return all
}

// apart reports for all pairs of states whether they accept different words.
// Words with as many symbols as there are states tell all of them apart.
func apart(a Auto) [][]bool {
	n := len(a.Accept)
	to := targets(a)
	differ := make([][]bool, n)
	for p := range differ {
		differ[p] = make([]bool, n)
		for q := range differ[p] {
			differ[p][q] = a.Accept[p] != a.Accept[q]
		}
	}
	for range n {
		for p := range n {
			for q := range n {
				for x := range a.Symbols {
					u, yes := to[p][x]
					v, too := to[q][x]
					if yes != too || yes && differ[u][v] {
						differ[p][q] = true
					}
				}
			}
		}
	}
	return differ
}

// fault returns why an automaton is not in normal form, or nothing.
func fault(a Auto) string {
	if Valid(a) != api.OK {
		return "it is not valid"
	}
	found := []int{0}
	for i := 0; i < len(found); i++ {
		for _, e := range a.Edges { // they are in order, as is checked below
			if e.From == found[i] && !slices.Contains(found, e.To) {
				found = append(found, e.To)
			}
		}
	}
	for i := range a.Accept {
		if i >= len(found) || found[i] != i {
			return "its states are not in order, or cannot be reached"
		}
	}
	good := fruitful(a)
	for i, e := range a.Edges {
		if e.In < 0 {
			return "an edge reads nothing"
		}
		if !good[e.To] {
			return "an edge leads to a state that accepts no word"
		}
		if i > 0 && (e.From < a.Edges[i-1].From || e.From == a.Edges[i-1].From && e.In <= a.Edges[i-1].In) {
			return "its edges are not in order, or two of a state read the same symbol"
		}
	}
	for p, row := range apart(a) {
		for q, yes := range row {
			if p != q && !yes {
				return "two states accept the same words"
			}
		}
	}
	return ""
}

// fixed returns the normal form of an automaton that has one.
func fixed(t *testing.T, a Auto) Auto {
	t.Helper()
	b, e := Fixed(a)
	if e != api.OK {
		t.Fatalf("P5.4: Fixed(%v): error %d", a, e)
	}
	return b
}

// mixed returns the same automaton with other numbers for its states but 0, and its edges in another order, some of them twice.
func mixed(r *rand.Rand, a Auto) Auto {
	number := []int{0}
	for _, i := range r.Perm(len(a.Accept) - 1) {
		number = append(number, i+1)
	}
	b := build(a.Symbols, len(a.Accept), nil)
	for s, yes := range a.Accept {
		b.Accept[number[s]] = yes
	}
	for _, e := range a.Edges {
		for range 1 + r.Intn(2) {
			b.Edges = append(b.Edges, Edge{number[e.From], e.In, number[e.To]})
		}
	}
	r.Shuffle(len(b.Edges), func(i, k int) { b.Edges[i], b.Edges[k] = b.Edges[k], b.Edges[i] })
	return b
}

// invalid returns automata that are not valid, with the error of each.
func invalid() map[string]struct {
	a Auto
	e api.Errno
} {
	type bad = struct {
		a Auto
		e api.Errno
	}
	many := make([]Edge, mostEdges+1)
	return map[string]bad{
		"zero":                     {Auto{}, api.ErrArg},
		"no states":                {build(2, 0, nil), api.ErrArg},
		"no symbols":               {build(0, 1, []int{0}), api.ErrArg},
		"fewer than no symbols":    {build(-1, 1, []int{0}), api.ErrArg},
		"fewest symbols":           {build(math.MinInt, 1, []int{0}), api.ErrArg},
		"too many symbols":         {build(65, 1, []int{0}), api.ErrLimit},
		"most symbols":             {build(math.MaxInt, 1, []int{0}), api.ErrLimit},
		"too many states":          {build(1, 257, []int{0}), api.ErrLimit},
		"too many edges":           {build(1, 1, []int{0}, many...), api.ErrLimit},
		"from before":              {build(1, 2, []int{0}, Edge{-1, 0, 0}), api.ErrArg},
		"from behind":              {build(1, 2, []int{0}, Edge{2, 0, 0}), api.ErrArg},
		"to before":                {build(1, 2, []int{0}, Edge{0, 0, -1}), api.ErrArg},
		"to behind":                {build(1, 2, []int{0}, Edge{0, 0, 2}), api.ErrArg},
		"in before":                {build(1, 2, []int{0}, Edge{0, -2, 0}), api.ErrArg},
		"in behind":                {build(1, 2, []int{0}, Edge{0, 1, 0}), api.ErrArg},
		"in behind, 64":            {build(64, 2, []int{0}, Edge{0, 64, 0}), api.ErrArg},
		"extremes":                 {build(1, 2, []int{0}, Edge{math.MinInt, math.MaxInt, math.MinInt}), api.ErrArg},
		"the last edge":            {build(1, 2, []int{0}, Edge{0, 0, 0}, Edge{0, -1, 1}, Edge{1, 0, 7}), api.ErrArg},
		"symbols, wrong edge":      {build(65, 1, []int{0}, Edge{5, 5, 5}), api.ErrLimit},
		"symbols, no states":       {build(65, 0, nil), api.ErrLimit},
		"states, no symbols":       {build(0, 257, nil), api.ErrLimit},
		"states, wrong edge":       {build(1, 257, nil, Edge{-1, -5, 0}), api.ErrLimit},
		"edges, no states":         {build(1, 0, nil, many...), api.ErrLimit},
		"edges, all of them wrong": {build(-3, 0, nil, slices.Repeat([]Edge{{-9, -9, -9}}, mostEdges+1)...), api.ErrLimit},
	}
}

// largest returns a valid automaton with the most symbols, states and edges.
func largest() Auto {
	a := build(mostSymbols, mostStates, []int{255})
	for i := range mostEdges {
		a.Edges = append(a.Edges, Edge{i % mostStates, i%mostSymbols - i%2, (i + 1) % mostStates})
	}
	return a
}

// example is that of the chapter.
func example() Auto {
	return build(2, 3, []int{2}, Edge{0, 0, 0}, Edge{0, 1, 0}, Edge{0, 1, 1}, Edge{1, 0, 2}, Edge{1, 1, 2})
}

func TestP5_1Valid(t *testing.T) {
	for name, x := range invalid() {
		if e := Valid(x.a); e != x.e {
			t.Errorf("P5.1: Valid, %s: error %d instead of %d", name, e, x.e)
		}
	}
	for name, a := range map[string]Auto{
		"example":  example(),
		"smallest": build(1, 1, nil),
		"nothing":  build(1, 1, []int{0}, Edge{0, -1, 0}),
		"last":     build(64, 256, nil, Edge{255, 63, 255}, Edge{255, -1, 255}, Edge{255, 63, 255}),
		"largest":  largest(),
		"edges":    build(1, 1, nil, make([]Edge, mostEdges)...),
	} {
		if e := Valid(a); e != api.OK {
			t.Errorf("P5.1: Valid, %s: error %d", name, e)
		}
	}
}

func TestP5_2Examples(t *testing.T) {
	if !Accepts(example(), []int{0, 1, 0}) || Accepts(example(), []int{1, 0, 0}) {
		t.Error("P5.2: the examples")
	}
}

func TestP5_2Words(t *testing.T) {
	r := rand.New(rand.NewSource(1))
	for range 300 {
		a := anyAuto(r, 3, 5, 12)
		for _, w := range upTo(a.Symbols, 5) {
			if got := Accepts(a, w); got != accepted(a, 0, w) {
				t.Fatalf("P5.2: Accepts(%v, %v): %t", a, w, got)
			}
		}
	}
}

func TestP5_2NoSymbols(t *testing.T) {
	all := build(2, 2, []int{0, 1}, Edge{0, -1, 1}, Edge{1, -1, 0}, Edge{0, 0, 0}, Edge{1, 1, 1})
	if !Accepts(all, nil) || !Accepts(all, []int{}) || !Accepts(all, []int{0, 1, 1, 0}) {
		t.Error("P5.2: an automaton for all words does not accept one")
	}
	for _, x := range []int{-1, -2, 2, 3, 63, 64, math.MinInt, math.MaxInt} {
		for _, w := range [][]int{{x}, {0, x}, {x, 1}, {0, x, 1}} {
			if Accepts(all, w) {
				t.Errorf("P5.2: Accepts(%v), which is no word of two symbols", w)
			}
		}
	}
}

func TestP5_2Invalid(t *testing.T) {
	for name, x := range invalid() {
		for _, w := range [][]int{nil, {0}, {0, 0}} {
			if Accepts(x.a, w) {
				t.Errorf("P5.2: an automaton that is not valid, %s, accepts %v", name, w)
			}
		}
	}
}

func TestP5_2Long(t *testing.T) {
	a := fromEnd(2, 200) // has far more sets than can be counted
	w := make([]int, 10000)
	if Accepts(a, w) {
		t.Error("P5.2: a word of symbols 0 is accepted")
	}
	for _, at := range []int{0, 9799, 9801, 9999} {
		w[at] = 1
		if Accepts(a, w) {
			t.Errorf("P5.2: a word is accepted with the symbol 1 at %d", at)
		}
	}
	w[9800] = 1
	if !Accepts(a, w) {
		t.Error("P5.2: a word is not accepted whose 200th symbol from the end is 1")
	}
}

func TestP5_2Largest(t *testing.T) {
	a := build(64, 256, []int{255})
	for s := range 255 {
		a.Edges = append(a.Edges, Edge{s, s % 64, s + 1}, Edge{s, -1, s / 2})
	}
	var w []int
	for s := range 255 {
		w = append(w, s%64)
	}
	if !Accepts(a, w) || Accepts(a, w[1:]) || Accepts(a, append(w, 0)) {
		t.Error("P5.2: an automaton of 256 states does not accept just its word")
	}
}

func TestP5_3Shortest(t *testing.T) {
	if w, ok := Shortest(example()); !slices.Equal(w, []int{1, 0}) || !ok {
		t.Error("P5.3: the example:", w, ok)
	}
	r := rand.New(rand.NewSource(2))
	found := 0
	for range 2000 {
		a := anyAuto(r, 3, 6, 14)
		want, yes := firstOf(upTo(a.Symbols, 5), func(w []int) bool { return accepted(a, 0, w) })
		if yes {
			found++
		}
		if w, ok := Shortest(a); !slices.Equal(w, want) || ok != yes {
			t.Fatalf("P5.3: Shortest(%v): %v, %t instead of %v, %t", a, w, ok, want, yes)
		}
	}
	if found < 500 || found > 1900 {
		t.Errorf("P5.3: %d of 2000 automata have words", found)
	}
}

func TestP5_3Order(t *testing.T) {
	for name, x := range map[string]struct {
		a    Auto
		want []int
		ok   bool
	}{
		"empty word":            {build(1, 1, []int{0}, Edge{0, 0, 0}), nil, true},
		"empty word, by ways":   {build(1, 3, []int{2}, Edge{0, -1, 1}, Edge{1, -1, 2}), nil, true},
		"no word":               {build(2, 3, []int{2}, Edge{0, 0, 1}, Edge{1, 1, 0}, Edge{2, 0, 2}), nil, false},
		"no accepting state":    {build(2, 1, nil, Edge{0, 0, 0}), nil, false},
		"shorter before less":   {build(3, 4, []int{3}, Edge{0, 0, 1}, Edge{1, 0, 3}, Edge{0, 2, 3}), []int{2}, true},
		"first symbol first":    {build(3, 5, []int{4}, Edge{0, 1, 1}, Edge{1, 0, 4}, Edge{0, 0, 2}, Edge{2, 2, 4}), []int{0, 2}, true},
		"by several states":     {build(3, 5, []int{4}, Edge{0, 0, 1}, Edge{0, 0, 2}, Edge{1, 2, 4}, Edge{2, 1, 4}), []int{0, 1}, true},
		"a state found earlier": {build(2, 4, []int{3}, Edge{0, 0, 1}, Edge{0, 0, 0}, Edge{0, 1, 1}, Edge{1, 1, 2}, Edge{2, 0, 3}), []int{0, 1, 0}, true},
		"nothing read between":  {build(2, 5, []int{4}, Edge{0, 1, 1}, Edge{1, -1, 2}, Edge{2, -1, 3}, Edge{3, 0, 4}, Edge{0, -1, 3}, Edge{3, -1, 0}), []int{0}, true},
	} {
		if w, ok := Shortest(x.a); !slices.Equal(w, x.want) || ok != x.ok {
			t.Errorf("P5.3: Shortest, %s: %v, %t", name, w, ok)
		}
	}
}

func TestP5_3Large(t *testing.T) {
	want := make([]int, 200)
	want[0] = 1
	if w, ok := Shortest(fromEnd(2, 200)); !slices.Equal(w, want) || !ok {
		t.Error("P5.3: an automaton with too many sets:", w, ok)
	}
	if w, ok := Shortest(chain(64, 255)); len(w) != 255 || slices.Max(w) != 0 || !ok {
		t.Error("P5.3: the longest first word:", w, ok)
	}
}

func TestP5_3Invalid(t *testing.T) {
	for name, x := range invalid() {
		if w, ok := Shortest(x.a); len(w) != 0 || ok {
			t.Errorf("P5.3: Shortest, %s: %v, %t", name, w, ok)
		}
	}
}

func TestP5_4Examples(t *testing.T) {
	a, e := Fixed(example())
	want := build(2, 4, []int{2, 3}, Edge{0, 0, 0}, Edge{0, 1, 1}, Edge{1, 0, 2}, Edge{1, 1, 3}, Edge{2, 0, 0}, Edge{2, 1, 1}, Edge{3, 0, 2}, Edge{3, 1, 3})
	if !same(a, want) || e != api.OK {
		t.Errorf("P5.4: the example: %v, error %d", a, e)
	}
	for name, x := range map[string]struct{ a, want Auto }{
		"no word":             {build(5, 3, []int{2}, Edge{0, 4, 1}, Edge{1, 0, 1}), build(5, 1, nil)},
		"no word, loops":      {build(2, 1, nil, Edge{0, 0, 0}, Edge{0, 1, 0}), build(2, 1, nil)},
		"empty word":          {build(5, 3, []int{2}, Edge{0, -1, 2}, Edge{0, 3, 1}), build(5, 1, []int{0})},
		"all words":           {build(2, 3, []int{0, 1, 2}, Edge{0, 0, 1}, Edge{0, 1, 2}, Edge{1, 0, 0}, Edge{1, 1, 2}, Edge{2, 1, 1}, Edge{2, 0, 0}), build(2, 1, []int{0}, Edge{0, 0, 0}, Edge{0, 1, 0})},
		"numbers by symbols":  {build(2, 4, []int{1, 3}, Edge{0, 1, 1}, Edge{0, 0, 2}, Edge{2, 0, 3}), build(2, 3, []int{2}, Edge{0, 0, 1}, Edge{0, 1, 2}, Edge{1, 0, 2})},
		"states of one kind":  {build(1, 4, []int{3}, Edge{0, 0, 1}, Edge{0, 0, 2}, Edge{1, 0, 3}, Edge{2, 0, 3}), chain(1, 2)},
		"a way back to 0":     {build(1, 2, []int{1}, Edge{0, 0, 1}, Edge{1, -1, 0}), build(1, 2, []int{1}, Edge{0, 0, 1}, Edge{1, 0, 1})},
		"0 like another one":  {build(1, 2, []int{0, 1}, Edge{0, 0, 1}, Edge{1, 0, 0}), build(1, 1, []int{0}, Edge{0, 0, 0})},
		"in normal form":      {cycle(2, 3, 1), cycle(2, 3, 1)},
		"edges several times": {build(1, 2, []int{1}, Edge{0, 0, 1}, Edge{0, 0, 1}, Edge{0, 0, 1}), chain(1, 1)},
	} {
		if a, e := Fixed(x.a); !same(a, x.want) || e != api.OK {
			t.Errorf("P5.4: Fixed, %s: %v, error %d", name, a, e)
		}
	}
}

func TestP5_4Words(t *testing.T) {
	r := rand.New(rand.NewSource(3))
	for range 500 {
		a := anyAuto(r, 3, 6, 14)
		before := copied(a)
		b := fixed(t, a)
		if b.Symbols != a.Symbols || fault(b) != "" {
			t.Fatalf("P5.4: Fixed(%v): %v: %s", a, b, fault(b))
		}
		for _, w := range upTo(a.Symbols, 5) {
			if accepted(a, 0, w) != accepted(b, 0, w) {
				t.Fatalf("P5.4: Fixed(%v): %v, which differs for %v", a, b, w)
			}
		}
		if !same(a, before) {
			t.Fatalf("P5.4: Fixed changed %v", before)
		}
		if c := fixed(t, mixed(r, a)); !same(b, c) {
			t.Fatalf("P5.4: Fixed(%v): %v, in another order %v", a, b, c)
		}
	}
}

func TestP5_4Sets(t *testing.T) {
	r := rand.New(rand.NewSource(4))
	few, many := 0, 0
	for range 120 {
		a := tangled(r)
		n := setsOf(a)
		b, e := Fixed(a)
		if n > mostStates {
			many++
			if e != api.ErrLimit || !same(b, Auto{}) {
				t.Fatalf("P5.4: Fixed(%v) with %d sets: %v, error %d", a, n, b, e)
			}
		} else if few++; e != api.OK {
			t.Fatalf("P5.4: Fixed(%v) with %d sets: error %d", a, n, e)
		}
	}
	if few < 10 || many < 10 {
		t.Errorf("P5.4: %d automata with few sets, %d with too many", few, many)
	}
}

func TestP5_4Limits(t *testing.T) {
	if a := fixed(t, fromEnd(2, 8)); len(a.Accept) != mostStates || fault(a) != "" {
		t.Errorf("P5.4: 256 sets: %d states: %s", len(a.Accept), fault(a))
	}
	if a := fixed(t, fromEnd(64, 6)); len(a.Accept) != 64 || len(a.Edges) != mostEdges {
		t.Errorf("P5.4: 4096 edges: %d states, %d edges", len(a.Accept), len(a.Edges))
	}
	if a := fixed(t, chain(1, 255)); !same(a, chain(1, 255)) {
		t.Error("P5.4: 256 states:", a)
	}
	before := fromEnd(2, 8) // a state before all others, from which a symbol leads to the old first one
	before.Accept = append([]bool{false}, before.Accept...)
	for i := range before.Edges {
		before.Edges[i].From++
		before.Edges[i].To++
	}
	before.Edges = append(before.Edges, Edge{0, 0, 1})
	useless := fromEnd(3, 8) // a set that accepts no word counts too
	useless.Edges = slices.DeleteFunc(useless.Edges, func(e Edge) bool { return e.In == 2 })
	useless.Accept = append(useless.Accept, false)
	useless.Edges = append(useless.Edges, Edge{0, 2, 9})
	more := fromEnd(64, 6) // the states that lead on have all edges, and there is one more of them
	more.Accept = append(more.Accept, false)
	more.Edges = append(more.Edges, Edge{7, 0, 0})
	for i := range more.Edges {
		more.Edges[i].From = 7 - more.Edges[i].From
		more.Edges[i].To = 7 - more.Edges[i].To
	}
	slices.Reverse(more.Accept)
	for name, a := range map[string]Auto{"512 sets": fromEnd(2, 9), "257 sets": before, "257 sets, one without words": useless, "8192 edges": fromEnd(64, 7), "4097 edges": more} {
		if b, e := Fixed(a); e != api.ErrLimit || !same(b, Auto{}) {
			t.Errorf("P5.4: Fixed, %s: %d states, %d edges, error %d", name, len(b.Accept), len(b.Edges), e)
		}
	}
	if n := setsOf(before); n != 257 {
		t.Errorf("P5.4: the test has %d sets instead of 257", n)
	}
	if n := setsOf(useless); n != 257 {
		t.Errorf("P5.4: the test has %d sets instead of 257", n)
	}
}

func TestP5_4UselessEdges(t *testing.T) {
	a := fromEnd(64, 6) // that which leads to no accepting state counts neither as a state nor as an edge
	a.Accept = append(a.Accept, false, false)
	for s := range 64 {
		a.Edges = append(a.Edges, Edge{7, s, 8}, Edge{0, s, 7}, Edge{8, s, 8})
	}
	if b, e := Fixed(a); e != api.OK || len(b.Accept) != 64 || len(b.Edges) != mostEdges {
		t.Errorf("P5.4: useless edges: %d states, %d edges, error %d", len(b.Accept), len(b.Edges), e)
	}
}

func TestP5_4Invalid(t *testing.T) {
	for name, x := range invalid() {
		if b, e := Fixed(x.a); e != x.e || !same(b, Auto{}) {
			t.Errorf("P5.4: Fixed, %s: %v, error %d", name, b, e)
		}
		if b, e := Not(x.a); e != x.e || !same(b, Auto{}) {
			t.Errorf("P5.6: Not, %s: %v, error %d", name, b, e)
		}
		if b, e := Turn(x.a); e != x.e || !same(b, Auto{}) {
			t.Errorf("P5.8: Turn, %s: %v, error %d", name, b, e)
		}
	}
}

func TestP5_5Both(t *testing.T) {
	for name, x := range map[string]struct{ a, b, want Auto }{
		"lengths":        {cycle(2, 2, 0), cycle(2, 3, 1), cycle(2, 6, 4)},
		"one of them":    {cycle(2, 2, 0), chain(2, 4), chain(2, 4)},
		"none":           {cycle(1, 2, 0), cycle(1, 2, 1), build(1, 1, nil)},
		"no word at all": {build(3, 1, nil), cycle(3, 2, 1), build(3, 1, nil)},
		"with itself":    {example(), example(), fixed(t, example())},
	} {
		if c, e := Both(x.a, x.b); !same(c, x.want) || e != api.OK {
			t.Errorf("P5.5: Both, %s: %v, error %d", name, c, e)
		}
	}
	r := rand.New(rand.NewSource(5))
	for range 400 {
		a, b := anyAuto(r, 3, 5, 12), anyAuto(r, 3, 5, 12)
		before, too := copied(a), copied(b)
		c, e := Both(a, b)
		if !same(a, before) || !same(b, too) {
			t.Fatalf("P5.5: Both changed %v or %v", before, too)
		}
		if a.Symbols != b.Symbols {
			if e != api.ErrType || !same(c, Auto{}) {
				t.Fatalf("P5.5: Both(%v, %v): %v, error %d", a, b, c, e)
			}
			continue
		}
		if e != api.OK || c.Symbols != a.Symbols || fault(c) != "" {
			t.Fatalf("P5.5: Both(%v, %v): %v, error %d: %s", a, b, c, e, fault(c))
		}
		for _, w := range upTo(a.Symbols, 5) {
			if accepted(c, 0, w) != (accepted(a, 0, w) && accepted(b, 0, w)) {
				t.Fatalf("P5.5: Both(%v, %v): %v, which is wrong for %v", a, b, c, w)
			}
		}
	}
}

func TestP5_5Pairs(t *testing.T) {
	some := build(1, 2, []int{1}, Edge{0, 0, 1}, Edge{1, 0, 1})  // all words but the empty one
	even := build(64, 2, []int{0}, Edge{0, 2, 1}, Edge{1, 2, 0}) // words with an even number of symbols 2
	for x := range 64 {
		if x != 2 {
			even.Edges = append(even.Edges, Edge{0, x, 0}, Edge{1, x, 1})
		}
	}
	for name, x := range map[string]struct {
		a, b Auto
		e    api.Errno
	}{
		"256 pairs":             {cycle(1, 256, 3), cycle(1, 64, 3), api.OK},
		"257 pairs":             {cycle(1, 256, 3), some, api.ErrLimit},
		"255 and 1 pairs":       {cycle(1, 255, 3), some, api.OK},
		"272 pairs":             {cycle(1, 16, 1), cycle(1, 17, 2), api.ErrLimit},
		"240 pairs":             {cycle(1, 16, 1), cycle(1, 15, 2), api.OK},
		"544 pairs, no word":    {cycle(1, 34, 0), cycle(1, 32, 1), api.ErrLimit},
		"16 states after all":   {fromEnd(64, 6), cycle(64, 2, 1), api.OK}, // from 128 pairs with 8192 edges
		"no pairs but one":      {cycle(1, 256, 3), build(1, 1, nil), api.OK},
		"4096 edges":            {fromEnd(64, 6), fromEnd(64, 6), api.OK},
		"8192 edges":            {fromEnd(64, 6), even, api.ErrLimit},
		"8192 edges, second":    {even, fromEnd(64, 6), api.ErrLimit},
		"256 of 65536":          {fromEnd(2, 8), fromEnd(2, 8), api.OK},
		"many pairs that start": {fromEnd(2, 8), cycle(2, 2, 0), api.ErrLimit},
	} {
		n := 0
		if a, b := fixed(t, x.a), fixed(t, x.b); len(a.Edges) < 600 {
			n = pairsOf(a, b)
		}
		if n > mostStates && x.e == api.OK {
			t.Errorf("P5.5: the test %s has %d pairs", name, n)
		}
		if c, e := Both(x.a, x.b); e != x.e || e != api.OK && !same(c, Auto{}) {
			t.Errorf("P5.5: Both, %s: %d states, %d edges, error %d", name, len(c.Accept), len(c.Edges), e)
		}
	}
}

func TestP5_5CountedPairs(t *testing.T) {
	r := rand.New(rand.NewSource(6))
	few, many := 0, 0
	for range 120 {
		a, b := steady(r, 18+r.Intn(20)), steady(r, 18+r.Intn(20))
		x, e := Fixed(a)
		y, f := Fixed(b)
		if e != api.OK || f != api.OK {
			continue
		}
		n := pairsOf(x, y)
		c, e := Both(a, b)
		if n <= mostStates {
			if few++; e != api.OK {
				t.Fatalf("P5.5: Both(%v, %v) with %d pairs: error %d", a, b, n, e)
			}
		} else if many++; e != api.ErrLimit || !same(c, Auto{}) {
			t.Fatalf("P5.5: Both(%v, %v) with %d pairs: %v, error %d", a, b, n, c, e)
		}
	}
	if few < 10 || many < 10 {
		t.Errorf("P5.5: %d with few pairs, %d with too many", few, many)
	}
}

// faults are pairs of automata with the errors that both Both and Differ return.
func faults() map[string]struct {
	a, b Auto
	e    api.Errno
} {
	type bad = struct {
		a, b Auto
		e    api.Errno
	}
	l := map[string]bad{
		"symbols":                    {build(1, 1, nil), build(2, 1, nil), api.ErrType},
		"symbols, no normal form":    {fromEnd(2, 9), build(3, 1, nil), api.ErrType},
		"symbols, none for both":     {fromEnd(2, 9), fromEnd(3, 9), api.ErrType},
		"no normal form":             {fromEnd(2, 9), build(2, 1, nil), api.ErrLimit},
		"no normal form, second":     {build(2, 1, nil), fromEnd(2, 9), api.ErrLimit},
		"too many edges":             {fromEnd(64, 7), build(64, 1, nil), api.ErrLimit},
		"too many edges, second":     {build(64, 1, nil), fromEnd(64, 7), api.ErrLimit},
		"limit, then argument":       {build(65, 1, nil), build(0, 1, nil), api.ErrLimit},
		"argument, then limit":       {build(0, 1, nil), build(65, 1, nil), api.ErrArg},
		"no normal form, argument":   {fromEnd(2, 9), build(2, 0, nil), api.ErrArg},
		"symbols, argument":          {build(3, 1, nil), build(2, 1, nil, Edge{1, 0, 0}), api.ErrArg},
		"the same, which is invalid": {build(2, 0, nil), build(2, 0, nil), api.ErrArg},
	}
	for name, x := range invalid() {
		l["first: "+name] = bad{x.a, build(1, 1, nil), x.e}
		l["second: "+name] = bad{build(1, 1, nil), x.a, x.e}
	}
	return l
}

func TestP5_5Errors(t *testing.T) {
	for name, x := range faults() {
		if c, e := Both(x.a, x.b); e != x.e || !same(c, Auto{}) {
			t.Errorf("P5.5: Both, %s: %v, error %d instead of %d", name, c, e, x.e)
		}
	}
}

func TestP5_6Not(t *testing.T) {
	want := fixed(t, example())
	for s := range want.Accept {
		want.Accept[s] = s < 2
	}
	if a, e := Not(example()); !same(a, want) || e != api.OK {
		t.Errorf("P5.6: the example: %v, error %d", a, e)
	}
	all := build(2, 1, []int{0}, Edge{0, 0, 0}, Edge{0, 1, 0})
	for name, x := range map[string]struct{ a, want Auto }{
		"no word":    {build(2, 1, nil), all},
		"all words":  {all, build(2, 1, nil)},
		"empty word": {build(2, 1, []int{0}), build(2, 2, []int{1}, Edge{0, 0, 1}, Edge{0, 1, 1}, Edge{1, 0, 1}, Edge{1, 1, 1})},
		"a symbol":   {chain(1, 1), build(1, 3, []int{0, 2}, Edge{0, 0, 1}, Edge{1, 0, 2}, Edge{2, 0, 2})},
		"lengths":    {cycle(2, 2, 0), cycle(2, 2, 1)},
	} {
		if a, e := Not(x.a); !same(a, x.want) || e != api.OK {
			t.Errorf("P5.6: Not, %s: %v, error %d", name, a, e)
		}
	}
	r := rand.New(rand.NewSource(7))
	for range 400 {
		a := anyAuto(r, 3, 6, 14)
		before := copied(a)
		b, e := Not(a)
		if e != api.OK || b.Symbols != a.Symbols || fault(b) != "" || !same(a, before) {
			t.Fatalf("P5.6: Not(%v): %v, error %d: %s", before, b, e, fault(b))
		}
		for _, w := range upTo(a.Symbols, 5) {
			if accepted(a, 0, w) == accepted(b, 0, w) {
				t.Fatalf("P5.6: Not(%v): %v, which is wrong for %v", a, b, w)
			}
		}
	}
}

func TestP5_6Limits(t *testing.T) {
	full := chain(2, 255) // its last state accepts all words: with a sink it has 257 states, without it 256
	full.Edges = append(full.Edges, Edge{255, 0, 255}, Edge{255, 1, 255})
	for name, x := range map[string]struct {
		a             Auto
		states, edges int
	}{
		"256 states":             {chain(1, 254), 256, 256},
		"257 states with a sink": {full, 256, 511},
		"4096 edges":             {chain(64, 62), 64, 4096},
	} {
		if b, e := Not(x.a); e != api.OK || len(b.Accept) != x.states || len(b.Edges) != x.edges || fault(b) != "" {
			t.Errorf("P5.6: Not, %s: %d states, %d edges, error %d: %s", name, len(b.Accept), len(b.Edges), e, fault(b))
		}
	}
	for name, a := range map[string]Auto{"257 states": chain(1, 255), "4160 edges": chain(64, 63), "16448 edges": chain(64, 255), "512 sets": fromEnd(2, 9), "8192 edges before": fromEnd(64, 7)} {
		if b, e := Not(a); e != api.ErrLimit || !same(b, Auto{}) {
			t.Errorf("P5.6: Not, %s: %d states, %d edges, error %d", name, len(b.Accept), len(b.Edges), e)
		}
	}
}

func TestP5_7Differ(t *testing.T) {
	turned, e := Turn(example())
	if e != api.OK {
		t.Fatal("P5.8: Turn of the example: error", e)
	}
	if w, ok, e := Differ(example(), turned); !slices.Equal(w, []int{0, 1}) || !ok || e != api.OK {
		t.Errorf("P5.7: the example: %v, %t, error %d", w, ok, e)
	}
	for name, x := range map[string]struct {
		a, b Auto
		want []int
		ok   bool
	}{
		"no words":         {build(2, 1, nil), build(2, 3, []int{2}, Edge{0, 0, 1}), nil, false},
		"empty word":       {build(2, 1, nil), build(2, 1, []int{0}), nil, true},
		"only the first":   {chain(2, 3), build(2, 1, nil), []int{0, 0, 0}, true},
		"only the second":  {build(2, 1, nil), chain(2, 3), []int{0, 0, 0}, true},
		"past an end":      {cycle(1, 1, 0), chain(1, 0), []int{0}, true},
		"both end":         {chain(2, 4), chain(2, 5), []int{0, 0, 0, 0}, true},
		"the same lengths": {cycle(3, 4, 2), cycle(3, 4, 2), nil, false},
		"lengths":          {cycle(2, 4, 2), cycle(2, 2, 0), nil, true},
		"less before more": {build(3, 2, []int{1}, Edge{0, 2, 1}), build(3, 2, []int{1}, Edge{0, 1, 1}), []int{1}, true},
	} {
		if w, ok, e := Differ(x.a, x.b); !slices.Equal(w, x.want) || ok != x.ok || e != api.OK {
			t.Errorf("P5.7: Differ, %s: %v, %t, error %d", name, w, ok, e)
		}
	}
}

func TestP5_7First(t *testing.T) {
	r := rand.New(rand.NewSource(8))
	found := 0
	for range 2000 {
		a, b := anyAuto(r, 2, 4, 9), anyAuto(r, 2, 4, 9)
		b.Symbols = a.Symbols
		b.Edges = slices.DeleteFunc(b.Edges, func(e Edge) bool { return e.In >= a.Symbols })
		before, too := copied(a), copied(b)
		want, yes := firstOf(upTo(a.Symbols, 6), func(w []int) bool { return accepted(a, 0, w) != accepted(b, 0, w) })
		w, ok, e := Differ(a, b)
		if e != api.OK || !same(a, before) || !same(b, too) {
			t.Fatalf("P5.7: Differ(%v, %v): %v, %t, error %d", before, too, w, ok, e)
		}
		if yes {
			found++
		}
		if ok && len(w) > 6 {
			if yes || accepted(a, 0, w) == accepted(b, 0, w) {
				t.Fatalf("P5.7: Differ(%v, %v): %v", a, b, w)
			}
		} else if !slices.Equal(w, want) || ok != yes {
			t.Fatalf("P5.7: Differ(%v, %v): %v, %t instead of %v, %t", a, b, w, ok, want, yes)
		}
	}
	if found < 1000 || found == 2000 {
		t.Errorf("P5.7: %d of 2000 pairs differ", found)
	}
}

func TestP5_7Large(t *testing.T) {
	a, b := cycle(1, 255, 254), cycle(1, 256, 255)
	if w, ok, e := Differ(a, b); len(w) != 254 || !ok || e != api.OK {
		t.Errorf("P5.7: Differ of cycles: %d symbols, %t, error %d", len(w), ok, e)
	}
	a = cycle(1, 256, 255)
	b = build(1, 256, []int{255})
	for s := range 255 {
		b.Edges = append(b.Edges, Edge{s, 0, s + 1})
	}
	b.Edges = append(b.Edges, Edge{255, 0, 1})
	if w, ok, e := Differ(a, b); len(w) != 255+255 || !ok || e != api.OK {
		t.Errorf("P5.7: Differ of a cycle and a shorter one: %d symbols, %t, error %d", len(w), ok, e)
	}
	if w, ok, e := Differ(fromEnd(64, 6), fromEnd(64, 6)); len(w) != 0 || ok || e != api.OK {
		t.Errorf("P5.7: Differ of equal ones: %v, %t, error %d", w, ok, e)
	}
}

func TestP5_7Errors(t *testing.T) {
	for name, x := range faults() {
		if w, ok, e := Differ(x.a, x.b); e != x.e || ok || len(w) != 0 {
			t.Errorf("P5.7: Differ, %s: %v, %t, error %d instead of %d", name, w, ok, e, x.e)
		}
	}
	// More than 256 pairs are no error here.
	if w, ok, e := Differ(cycle(1, 16, 15), cycle(1, 17, 16)); len(w) != 15 || !ok || e != api.OK {
		t.Errorf("P5.7: Differ with 272 pairs: %v, %t, error %d", w, ok, e)
	}
}

// reversed returns a word from its end to its beginning.
func reversed(w []int) []int {
	l := slices.Clone(w)
	slices.Reverse(l)
	return l
}

func TestP5_8Turn(t *testing.T) {
	for name, x := range map[string]struct{ a, want Auto }{
		"example":       {example(), fromBegin(2, 2)},
		"back":          {fromBegin(2, 2), example()},
		"no word":       {build(2, 1, nil), build(2, 1, nil)},
		"no word, long": {build(2, 3, []int{2}, Edge{0, 0, 1}, Edge{1, 1, 1}), build(2, 1, nil)},
		"empty word":    {build(2, 2, []int{1}, Edge{0, -1, 1}), build(2, 1, []int{0})},
		"one word":      {build(3, 4, []int{3}, Edge{0, 0, 1}, Edge{1, 1, 2}, Edge{2, 2, 3}), build(3, 4, []int{3}, Edge{0, 2, 1}, Edge{1, 1, 2}, Edge{2, 0, 3})},
		"lengths":       {cycle(2, 5, 3), cycle(2, 5, 3)},
		"two ends":      {build(2, 3, []int{1, 2}, Edge{0, 0, 1}, Edge{1, 1, 2}), build(2, 3, []int{1}, Edge{0, 0, 1}, Edge{0, 1, 2}, Edge{2, 0, 1})},
	} {
		if a, e := Turn(x.a); !same(a, fixed(t, x.want)) || e != api.OK {
			t.Errorf("P5.8: Turn, %s: %v, error %d", name, a, e)
		}
	}
	r := rand.New(rand.NewSource(9))
	for range 400 {
		a := anyAuto(r, 3, 5, 12)
		before := copied(a)
		b, e := Turn(a)
		if e != api.OK || b.Symbols != a.Symbols || fault(b) != "" || !same(a, before) {
			t.Fatalf("P5.8: Turn(%v): %v, error %d: %s", before, b, e, fault(b))
		}
		for _, w := range upTo(a.Symbols, 5) {
			if accepted(a, 0, w) != accepted(b, 0, reversed(w)) {
				t.Fatalf("P5.8: Turn(%v): %v, which is wrong for %v", a, b, reversed(w))
			}
		}
	}
}

func TestP5_8Limits(t *testing.T) {
	if a, e := Turn(fromBegin(2, 8)); e != api.OK || len(a.Accept) != mostStates || !same(a, fixed(t, fromEnd(2, 8))) {
		t.Errorf("P5.8: Turn with 256 sets: %d states, error %d", len(a.Accept), e)
	}
	if a, e := Turn(fromBegin(64, 6)); e != api.OK || len(a.Edges) != mostEdges {
		t.Errorf("P5.8: Turn with 4096 edges: %d edges, error %d", len(a.Edges), e)
	}
	if a, e := Turn(fromEnd(2, 8)); e != api.OK || !same(a, fixed(t, fromBegin(2, 8))) {
		t.Errorf("P5.8: Turn of 256 states: %d states, error %d", len(a.Accept), e)
	}
	for name, a := range map[string]Auto{"512 sets": fromBegin(2, 9), "2 to the power of 200 sets": fromBegin(2, 200), "8192 edges": fromBegin(64, 7), "no normal form": fromEnd(2, 9), "a normal form with too many edges": fromEnd(64, 7)} {
		if b, e := Turn(a); e != api.ErrLimit || !same(b, Auto{}) {
			t.Errorf("P5.8: Turn, %s: %d states, %d edges, error %d", name, len(b.Accept), len(b.Edges), e)
		}
	}
}

func TestP5_8Sets(t *testing.T) {
	r := rand.New(rand.NewSource(10))
	few, many := 0, 0
	for range 120 {
		a := steady(r, 11+r.Intn(5))
		b, e := Fixed(a)
		if e != api.OK {
			continue
		}
		n := turnedSets(b)
		c, e := Turn(a)
		if n <= mostStates {
			if few++; e != api.OK || len(c.Accept) > n {
				t.Fatalf("P5.8: Turn(%v) with %d sets: %d states, error %d", a, n, len(c.Accept), e)
			}
		} else if many++; e != api.ErrLimit || !same(c, Auto{}) {
			t.Fatalf("P5.8: Turn(%v) with %d sets: %v, error %d", a, n, c, e)
		}
	}
	if few < 10 || many < 10 {
		t.Errorf("P5.8: %d with few sets, %d with too many", few, many)
	}
}

// results returns what Fixed, Both, Not and Turn return for two automata with the same symbols.
func results(t *testing.T, a, b Auto) []Auto {
	t.Helper()
	f, e := Fixed(a)
	g, e2 := Both(a, b)
	h, e3 := Not(a)
	i, e4 := Turn(a)
	if e != api.OK || e2 != api.OK || e3 != api.OK || e4 != api.OK {
		t.Fatalf("P5.9: %v and %v: errors %d, %d, %d, %d", a, b, e, e2, e3, e4)
	}
	return []Auto{f, g, h, i}
}

// anyPair returns two automata with the same symbols.
func anyPair(r *rand.Rand) (Auto, Auto) {
	for {
		a, b := anyAuto(r, 3, 6, 14), anyAuto(r, 3, 6, 14)
		if a.Symbols == b.Symbols {
			return a, b
		}
	}
}

func TestP5_9Form(t *testing.T) {
	r := rand.New(rand.NewSource(11))
	for range 400 {
		a, b := anyPair(r)
		for i, c := range results(t, a, b) {
			if why := fault(c); why != "" {
				t.Fatalf("P5.9: the result %d for %v and %v: %v: %s", i, a, b, c, why)
			}
			if d, e := Fixed(c); !same(c, d) || e != api.OK {
				t.Fatalf("P5.9: Fixed(%v): %v, error %d", c, d, e)
			}
		}
	}
	for _, a := range []Auto{fixed(t, fromEnd(2, 8)), fixed(t, fromEnd(64, 6)), chain(64, 255), build(64, 1, nil), build(1, 1, []int{0})} {
		if b := fixed(t, a); !same(a, b) {
			t.Errorf("P5.9: Fixed of an automaton of %d states in normal form: %d states, %d edges", len(a.Accept), len(b.Accept), len(b.Edges))
		}
	}
}

func TestP5_10Words(t *testing.T) {
	r := rand.New(rand.NewSource(12))
	for range 200 {
		a, b := anyPair(r)
		l := results(t, a, b)
		for _, w := range upTo(a.Symbols, 5) {
			in, too := Accepts(a, w), Accepts(b, w)
			if Accepts(l[0], w) != in || Accepts(l[1], w) != (in && too) || Accepts(l[2], w) == in || Accepts(l[3], reversed(w)) != in {
				t.Fatalf("P5.10: the results for %v and %v accept %v wrongly", a, b, w)
			}
		}
	}
}

func TestP5_10Long(t *testing.T) {
	r := rand.New(rand.NewSource(13))
	a, b := fromEnd(2, 7), cycle(2, 2, 1)
	l := results(t, a, b)
	for range 2000 {
		w := make([]int, r.Intn(40))
		for i := range w {
			w[i] = r.Intn(2)
		}
		in := len(w) >= 7 && w[len(w)-7] == 1
		if Accepts(l[0], w) != in || Accepts(l[1], w) != (in && len(w)%2 == 1) || Accepts(l[2], w) == in || Accepts(l[3], reversed(w)) != in {
			t.Fatalf("P5.10: %v is accepted wrongly", w)
		}
	}
}

func TestP5_11Same(t *testing.T) {
	r := rand.New(rand.NewSource(14))
	alike := 0
	for i := range 3000 {
		a, b := anyAuto(r, 2, 3, 6), anyAuto(r, 2, 3, 6)
		if i%4 == 0 {
			b = mixed(r, a)
		}
		if a.Symbols != b.Symbols {
			continue
		}
		w, ok, e := Differ(a, b)
		if e != api.OK || ok == same(fixed(t, a), fixed(t, b)) {
			t.Fatalf("P5.11: Differ(%v, %v): %v, %t, error %d", a, b, w, ok, e)
		}
		if ok && Accepts(a, w) == Accepts(b, w) {
			t.Fatalf("P5.11: Differ(%v, %v): %v, which both accept or do not", a, b, w)
		}
		if !ok {
			alike++
		}
	}
	if alike < 500 || alike > 2500 {
		t.Errorf("P5.11: %d pairs are alike", alike)
	}
	loop := build(2, 1, nil, Edge{0, 1, 0}) // accepts no word, as one without edges
	if !same(fixed(t, loop), fixed(t, build(2, 1, nil))) {
		t.Error("P5.11: two automata without words have two normal forms")
	}
}

func TestP5_12Shortest(t *testing.T) {
	r := rand.New(rand.NewSource(15))
	for range 1000 {
		a := anyAuto(r, 3, 7, 16)
		w, ok := Shortest(a)
		v, differ, e := Differ(a, build(a.Symbols, 1, nil))
		if !slices.Equal(v, w) || ok != differ || e != api.OK {
			t.Fatalf("P5.12: Shortest(%v): %v, %t; Differ: %v, %t, error %d", a, w, ok, v, differ, e)
		}
		v, differ, e = Differ(build(a.Symbols, 2, nil, Edge{0, 0, 1}), a)
		if !slices.Equal(v, w) || ok != differ || e != api.OK {
			t.Fatalf("P5.12: Shortest(%v): %v, %t; Differ, turned: %v, %t, error %d", a, w, ok, v, differ, e)
		}
	}
}

func TestResultsAreNew(t *testing.T) {
	a := cycle(2, 3, 1)
	before := copied(a)
	for i, c := range results(t, a, a) {
		want := copied(c)
		for s := range c.Accept {
			c.Accept[s] = !c.Accept[s]
		}
		for k := range c.Edges {
			c.Edges[k] = Edge{9, 9, 9}
		}
		if !same(a, before) || !same(results(t, a, a)[i], want) {
			t.Errorf("the result %d shares memory", i)
		}
	}
}

func TestEqualCallsHaveEqualResults(t *testing.T) {
	r := rand.New(rand.NewSource(16))
	for range 100 {
		a, b := anyPair(r)
		if !reflect.DeepEqual(results(t, a, b), results(t, a, b)) {
			t.Fatalf("the results for %v and %v differ from call to call", a, b)
		}
	}
}

// TestLargest has the calls end for automata at all limits; what they return is checked elsewhere.
func TestLargest(t *testing.T) {
	r := rand.New(rand.NewSource(17))
	for range 3 {
		a := largest()
		for i := range a.Edges {
			a.Edges[i] = Edge{r.Intn(mostStates), r.Intn(mostSymbols+1) - 1, r.Intn(mostStates)}
		}
		Accepts(a, r.Perm(64))
		Shortest(a)
		if b, e := Fixed(a); e == api.OK && fault(b) != "" {
			t.Error("P5.4: Fixed of a large automaton:", fault(b))
		}
		Both(a, a)
		Not(a)
		Differ(a, a)
		Turn(a)
	}
}

package contract

import (
	"math/rand"
	"reflect"
	"slices"
	"strings"
	"testing"

	"dactyl/api"
	"dactyl/table"
)

const (
	alphabet = "abcdefghijklmnopqrstuvwxyz"
	decimals = "0123456789"
)

// rule returns a rule.
func rule(text string, where int, cells ...byte) api.Rule {
	return api.Rule{Text: text, Where: where, Cells: cells}
}

// plain returns tables in which a to z have the cells 1 to 26 in both languages, with further rules in the language 0.
func plain(more ...api.Rule) api.Tables {
	t := api.Tables{Digits: []byte{41, 42, 43, 44, 45, 46, 47, 48, 49, 50}, Cap: []byte{60}, Num: []byte{61}, End: []byte{62}, Switch: []byte{63}}
	for i := range t.Lang {
		for k := range len(alphabet) {
			t.Lang[i].Rules = append(t.Lang[i].Rules, rule(alphabet[k:k+1], api.Any, byte(1+k)))
		}
	}
	t.Lang[0].Rules = append(t.Lang[0].Rules, more...)
	return t
}

// example returns the tables of the chapter's examples.
func example() api.Tables {
	return plain(rule("an", api.Any, 27), rule("and", api.Any, 28))
}

// blank returns the rule of a blank.
func blank(cells ...byte) api.Rule {
	return rule(" ", api.Any, cells...)
}

// write returns characters: those of a string, where | goes over to the other language.
func write(s string) []api.Sym {
	var l []api.Sym
	lang := 0
	for i := range len(s) {
		if s[i] == '|' {
			lang = 1 - lang
			continue
		}
		l = append(l, api.Sym{Lang: lang, C: s[i]})
	}
	return l
}

// copied returns a copy of tables.
func copied(t api.Tables) api.Tables {
	for i, l := range t.Lang {
		t.Lang[i].Rules = slices.Clone(l.Rules)
		for k, r := range l.Rules {
			t.Lang[i].Rules[k].Cells = slices.Clone(r.Cells)
		}
	}
	t.Digits = slices.Clone(t.Digits)
	t.Cap, t.Num, t.End, t.Switch = slices.Clone(t.Cap), slices.Clone(t.Num), slices.Clone(t.End), slices.Clone(t.Switch)
	return t
}

// anyCells returns cells of a table.
func anyCells(r *rand.Rand) []byte {
	l := make([]byte, 1+r.Intn(api.MaxCells))
	for i := range l {
		l[i] = byte(1 + r.Intn(63))
	}
	return l
}

// anyTables returns valid tables with so many rules at most in each language, of the first two letters and of some marks, in any order.
func anyTables(r *rand.Rand, most int) api.Tables {
	t := plain()
	for i := range t.Digits {
		t.Digits[i] = byte(1 + r.Intn(63))
	}
	t.Cap, t.Num, t.End, t.Switch = anyCells(r), anyCells(r), anyCells(r), anyCells(r)
	for i := range t.Lang {
		known := map[string]bool{}
		rules := t.Lang[i].Rules
		for k := range rules {
			rules[k].Cells = anyCells(r)
		}
		for range r.Intn(most - len(alphabet) + 1) {
			s, where := "", r.Intn(4)
			for range 1 + r.Intn(api.MaxPiece) {
				s += []string{"a", "a", "b"}[r.Intn(3)]
			}
			if r.Intn(4) == 0 {
				s, where = []string{" ", ".", "~"}[r.Intn(3)], api.Any
			}
			id := s + decimals[where:where+1]
			if !known[id] && (len(s) > 1 || where != api.Any || strings.Contains(" .~", s)) {
				known[id] = true
				rules = append(rules, rule(s, where, anyCells(r)...))
			}
		}
		r.Shuffle(len(rules), func(a, b int) { rules[a], rules[b] = rules[b], rules[a] })
		t.Lang[i].Rules = rules
	}
	return t
}

// anyText returns so many characters of a string at most, the same language for several of them.
func anyText(r *rand.Rand, most int, characters string) []api.Sym {
	l := make([]api.Sym, r.Intn(most+1))
	lang := r.Intn(2)
	for i := range l {
		if r.Intn(8) == 0 {
			lang = 1 - lang
		}
		l[i] = api.Sym{Lang: lang, C: characters[r.Intn(len(characters))]}
	}
	return l
}

// paths returns all paths of a text, as table.Steps says them of the whole text: in the order of Taken, with the places of their cells.
func paths(t api.Tables, l []api.Sym) []trail {
	var all []trail
	var visit func(at int, s table.State, p trail)
	visit = func(at int, s table.State, p trail) {
		if at == len(l) {
			all = append(all, p)
			return
		}
		for i, x := range table.Steps(t, s, l, at) {
			next := trail{slices.Concat(p.cells, x.Cells), slices.Clone(p.places), slices.Concat(p.taken, []int{i})}
			for range x.Cells {
				next.places = append(next.places, at)
			}
			visit(at+x.Len, x.To, next)
		}
	}
	visit(0, table.State{}, trail{})
	return all
}

// situation is a place and a state.
type situation struct {
	at int
	s  table.State
}

// model knows the least number of each place and state of a text.
type model struct {
	t     api.Tables
	l     []api.Sym
	known map[situation]int
}

// number returns the least number of a place and a state.
func (m model) number(at int, s table.State) int {
	if at == len(m.l) {
		return 0
	}
	if n, known := m.known[situation{at, s}]; known {
		return n
	}
	least := -1
	for _, x := range table.Steps(m.t, s, m.l, at) {
		n := m.number(at+x.Len, x.To)
		if n >= 0 && (least < 0 || n+len(x.Cells) < least) {
			least = n + len(x.Cells)
		}
	}
	m.known[situation{at, s}] = least
	return least
}

// modelLeast returns the least numbers of all places, the states in the order of their numbers.
func modelLeast(t api.Tables, l []api.Sym) [][]int {
	m := model{t, l, map[situation]int{}}
	var all [][]int
	for at := range len(l) + 1 {
		var n []int
		for lang := range 2 {
			for _, num := range []bool{false, true} {
				n = append(n, m.number(at, table.State{Lang: lang, Num: num}), m.number(at, table.State{Lang: lang, Num: num, In: true}))
			}
		}
		all = append(all, n)
	}
	return all
}

// modelTranslate returns of the paths with the fewest cells the first one.
func modelTranslate(t api.Tables, l []api.Sym) (Cert, api.Errno) {
	var best *trail
	for _, p := range paths(t, l) {
		if best == nil || len(p.cells) < len(best.cells) {
			best = &p
		}
	}
	if best == nil {
		return Cert{}, api.ErrNone
	}
	return Cert{best.cells, best.taken, modelLeast(t, l)}, api.OK
}

// same reports whether two translations are equal, where nil and empty lists are the same.
func same(a, b Cert) bool {
	return slices.Equal(a.Cells, b.Cells) && slices.Equal(a.Taken, b.Taken) && slices.EqualFunc(a.Least, b.Least, slices.Equal)
}

// clone returns a copy of a translation.
func clone(c Cert) Cert {
	c.Cells, c.Taken, c.Least = slices.Clone(c.Cells), slices.Clone(c.Taken), slices.Clone(c.Least)
	for i, n := range c.Least {
		c.Least[i] = slices.Clone(n)
	}
	return c
}

// empty reports whether a translation has nothing.
func empty(c Cert) bool {
	return len(c.Cells)+len(c.Taken)+len(c.Least) == 0
}

// translated returns what Translate returns for a text that has a translation.
func translated(test *testing.T, t api.Tables, l []api.Sym) Cert {
	test.Helper()
	c, e := Translate(t, l)
	if e != api.OK {
		test.Fatalf("P8.1: Translate of %v is %d", l, e)
	}
	return c
}

// invalid returns tables that are not valid, with what table.Valid says of them.
func invalid() map[api.Errno]api.Tables {
	none := plain()
	none.Lang[1].Rules[25].Text = "zz"
	return map[api.Errno]api.Tables{
		api.ErrLimit: plain(slices.Repeat([]api.Rule{rule("ab", api.Any, 3)}, 71)...),
		api.ErrArg:   plain(rule("ab", api.Any, 64)),
		api.ErrTwice: plain(rule("ab", api.Any, 3), rule("ab", api.Any, 5)),
		api.ErrNone:  none,
	}
}

// refusal is a call that is refused, and the error.
type refusal struct {
	what string
	t    api.Tables
	l    []api.Sym
	want api.Errno
}

// refusals returns calls that all functions refuse, in the order of the errors.
func refusals() []refusal {
	long := func(s string) []api.Sym { return write(strings.Repeat("a", api.MaxSyms) + s) }
	var l []refusal
	for want, t := range invalid() {
		l = append(l, refusal{"tables that are not valid", t, write("a"), want},
			refusal{"tables that are not valid, and a long text with characters that are not", t, long("a\x7f"), want},
			refusal{"tables that are not valid, and no text", t, nil, want})
	}
	for _, c := range []api.Sym{{Lang: 2, C: 'a'}, {Lang: -1, C: 'a'}, {Lang: 1 << 62, C: 'a'}, {C: 31}, {C: 127}, {C: 0}, {Lang: 1, C: 255}, {Lang: 1, C: '\n'}} {
		l = append(l, refusal{"a character that is not valid", example(), []api.Sym{c}, api.ErrArg},
			refusal{"a character that is not valid at the end", example(), append(write("?a"), c), api.ErrArg},
			refusal{"a character that is not valid after too many", example(), append(long("a"), c), api.ErrArg},
			refusal{"a character that is not valid among many", example(), slices.Concat([]api.Sym{c}, long("|a")), api.ErrArg})
	}
	return append(l, refusal{"no tables", api.Tables{}, write("a"), api.ErrArg},
		refusal{"too many characters", example(), long("a"), api.ErrLimit},
		refusal{"too many characters of two languages", example(), long("|a"), api.ErrLimit},
		refusal{"too many characters, one of which cannot be written", example(), long("?"), api.ErrLimit})
}

func TestRefusals(test *testing.T) {
	for _, x := range refusals() {
		if c, e := Translate(x.t, x.l); e != x.want || !empty(c) {
			test.Errorf("P8.1: Translate with %s is %d, not %d", x.what, e, x.want)
		}
		for _, c := range []Cert{{}, {Taken: []int{0}, Cells: []byte{1}, Least: [][]int{{1}}}} {
			if e := Check(x.t, x.l, c); e != x.want {
				test.Errorf("P8.2: Check with %s is %d, not %d", x.what, e, x.want)
			}
			if l, e := Spans(x.t, x.l, c); e != x.want || len(l) > 0 {
				test.Errorf("P8.5: Spans with %s is %v and %d, not %d", x.what, l, e, x.want)
			}
		}
		if l, e := Plain(x.t, x.l); e != x.want || len(l) > 0 {
			test.Errorf("P8.3: Plain with %s is %v and %d, not %d", x.what, l, e, x.want)
		}
		for _, points := range [][]int{nil, {0}, {1}, {-1, 1 << 62}} {
			if l, e := Width(x.t, x.l, points); e != x.want || len(l) > 0 {
				test.Errorf("P8.4: Width with %s is %v and %d, not %d", x.what, l, e, x.want)
			}
		}
	}
}

// TestArguments checks that no argument is changed, that equal calls have equal results, and that these share no memory.
func TestArguments(test *testing.T) {
	r := rand.New(rand.NewSource(80))
	for range 60 {
		t, l := anyTables(r, 80), anyText(r, 12, "aaabbbABz1 .")
		c, e := Translate(t, l)
		if e != api.OK {
			continue
		}
		points := anyPoints(r, len(l))
		keptT, keptL, keptC, keptPoints := copied(t), slices.Clone(l), clone(c), slices.Clone(points)
		var first [][]any
		for range 2 {
			again, _ := Translate(t, l)
			cells, _ := Plain(t, l)
			widths, _ := Width(t, l, points)
			spans, _ := Spans(t, l, c)
			if Check(t, l, c) != api.OK || !reflect.DeepEqual(t, keptT) || !slices.Equal(l, keptL) || !same(c, keptC) || !slices.Equal(points, keptPoints) {
				test.Fatalf("an argument is changed, or a translation refused")
			}
			first = append(first, []any{clone(again), slices.Clone(cells), clone(Cert{Least: widths}), slices.Clone(spans)})
			apart(test, again.Least)
			apart(test, widths)
			scratch(again.Cells, 77)
			scratch(again.Taken, 77)
			scratch(cells, 77)
			scratch(spans, 77)
		}
		if !reflect.DeepEqual(first[0], first[1]) {
			test.Fatalf("equal calls have different results, or results share memory: %v and %v", first[0], first[1])
		}
	}
}

// apart writes over lists, and checks that they share no memory.
func apart(test *testing.T, l [][]int) {
	test.Helper()
	for i, n := range l {
		kept := clone(Cert{Least: l[i+1:]}).Least
		scratch(n, 77)
		_ = append(n, 77)
		if !slices.EqualFunc(l[i+1:], kept, slices.Equal) {
			test.Fatalf("two lists of a result share memory")
		}
	}
}

// scratch writes a value over all elements of a list.
func scratch[T any](l []T, v T) {
	for i := range l {
		l[i] = v
	}
}

// anyPoints returns a division of a text of a length.
func anyPoints(r *rand.Rand, length int) []int {
	var points []int
	for p := 1; p < length; p++ {
		if r.Intn(2) == 0 {
			points = append(points, p)
		}
	}
	return points
}

package back

import (
	"bytes"
	"math/rand"
	"slices"
	"strings"
	"testing"

	"dactyl/api"
	"dactyl/table"
)

const (
	alphabet = "abcdefghijklmnopqrstuvwxyz"
	usual    = "aaabbAB01. "
)

// rule returns a rule.
func rule(text string, where int, cells ...byte) api.Rule {
	return api.Rule{Text: text, Where: where, Cells: cells}
}

// plain returns tables in which a to z have the cells 1 to 26 in both languages, with further rules in the language 0.
func plain(more ...api.Rule) api.Tables {
	t := api.Tables{Digits: []byte{41, 42, 43, 44, 45, 46, 47, 48, 49, 50}, Cap: []byte{60}, Num: []byte{61}, End: []byte{62}, Switch: []byte{63}}
	for i := range t.Lang {
		for k := range len(alphabet) {
			t.Lang[i].Rules = append(t.Lang[i].Rules, rule(alphabet[k:k+1], api.Any, byte(1+k)))
		}
	}
	t.Lang[0].Rules = append(t.Lang[0].Rules, more...)
	return t
}

// sample returns the tables of the chapter's examples.
func sample() api.Tables {
	return plain(rule("an", api.Any, 30), rule("an", api.Word, 31), rule("n", api.Inner, 32), rule(".", api.Any, 33))
}

// write returns characters: those of a string, where | goes over to the other language.
func write(s string) []api.Sym {
	var l []api.Sym
	lang := 0
	for i := range len(s) {
		if s[i] == '|' {
			lang = 1 - lang
			continue
		}
		l = append(l, api.Sym{Lang: lang, C: s[i]})
	}
	return l
}

// writes returns the characters of several strings.
func writes(l ...string) [][]api.Sym {
	var texts [][]api.Sym
	for _, s := range l {
		texts = append(texts, write(s))
	}
	return texts
}

// copied returns a copy of tables.
func copied(t api.Tables) api.Tables {
	for i, l := range t.Lang {
		t.Lang[i].Rules = slices.Clone(l.Rules)
		for k, r := range l.Rules {
			t.Lang[i].Rules[k].Cells = slices.Clone(r.Cells)
		}
	}
	t.Digits = slices.Clone(t.Digits)
	t.Cap, t.Num, t.End, t.Switch = slices.Clone(t.Cap), slices.Clone(t.Num), slices.Clone(t.End), slices.Clone(t.Switch)
	return t
}

// equal reports whether two lists of texts are equal, where nil and empty ones are the same.
func equal(a, b [][]api.Sym) bool {
	return slices.EqualFunc(a, b, func(x, y []api.Sym) bool { return slices.Equal(x, y) })
}

// before compares two texts as the chapter orders them.
func before(a, b []api.Sym) int {
	for i := range min(len(a), len(b)) {
		if a[i] != b[i] {
			if a[i].Lang != b[i].Lang {
				return a[i].Lang - b[i].Lang
			}
			return int(a[i].C) - int(b[i].C)
		}
	}
	return len(a) - len(b)
}

// anyCells returns up to so many of the first cells.
func anyCells(r *rand.Rand, most, last int) []byte {
	l := make([]byte, 1+r.Intn(most))
	for i := range l {
		l[i] = byte(1 + r.Intn(last))
	}
	return l
}

// anyTables returns valid tables in which a, b, the first two digits, some marks and the indicators have few cells, so that many texts share theirs; what is left has cells from 40 on.
func anyTables(r *rand.Rand, last int) api.Tables {
	t := plain()
	for i := range t.Digits {
		t.Digits[i] = byte(40 + i)
	}
	t.Digits[0], t.Digits[1] = byte(1+r.Intn(last)), byte(1+r.Intn(last))
	t.Cap, t.Num, t.End, t.Switch = anyCells(r, 2, last), anyCells(r, 2, last), anyCells(r, 2, last), anyCells(r, 2, last)
	for i := range t.Lang {
		rules := t.Lang[i].Rules
		for k := range rules {
			rules[k].Cells = []byte{byte(35 + k)}
		}
		rules[0].Cells, rules[1].Cells = anyCells(r, 2, last), anyCells(r, 2, last)
		for range r.Intn(8) {
			s, where := "", r.Intn(4)
			for range 1 + r.Intn(3) {
				s += []string{"a", "b"}[r.Intn(2)]
			}
			if r.Intn(4) == 0 {
				s, where = []string{" ", "."}[r.Intn(2)], api.Any
			}
			if !slices.ContainsFunc(rules, func(x api.Rule) bool { return x.Text == s && x.Where == where }) {
				rules = append(rules, rule(s, where, anyCells(r, 3, last)...))
			}
		}
		r.Shuffle(len(rules), func(a, b int) { rules[a], rules[b] = rules[b], rules[a] })
		t.Lang[i].Rules = rules
	}
	return t
}

// anyText returns so many characters of a string at most, the same language for several of them.
func anyText(r *rand.Rand, most int, characters string) []api.Sym {
	l := make([]api.Sym, r.Intn(most+1))
	lang := r.Intn(2)
	for i := range l {
		if r.Intn(6) == 0 {
			lang = 1 - lang
		}
		l[i] = api.Sym{Lang: lang, C: characters[r.Intn(len(characters))]}
	}
	return l
}

// translations returns the cells of all ways of steps that write a text.
func translations(t api.Tables, l []api.Sym) [][]byte {
	var all [][]byte
	var visit func(at int, s table.State, cells []byte)
	visit = func(at int, s table.State, cells []byte) {
		if at == len(l) {
			all = append(all, cells)
			return
		}
		for _, x := range table.Steps(t, s, l, at) {
			visit(at+x.Len, x.To, slices.Concat(cells, x.Cells))
		}
	}
	visit(0, table.State{}, nil)
	return all
}

// has reports whether a text has cells, by all of its translations.
func has(t api.Tables, l []api.Sym, cells []byte) bool {
	return slices.ContainsFunc(translations(t, l), func(c []byte) bool { return bytes.Equal(c, cells) })
}

// pieces returns the texts of rules of a language, also with a capital, and two digits; not those that have cells from 35 on.
func pieces(t api.Tables, lang int) []string {
	l := []string{"0", "1"}
	for _, r := range t.Lang[lang].Rules {
		if r.Cells[0] < 35 {
			l = append(l, r.Text)
			if c, letter, _ := table.Letter(r.Text[0]); letter {
				l = append(l, string(c-'a'+'A')+r.Text[1:])
			}
		}
	}
	return l
}

// guesses calls a function for texts, in which any piece of any language can follow any other one, by whatever cells some step could have, with the cells that are left and the language after it; these are more than those that have the cells.
func guesses(t api.Tables, cells []byte, found func(l []api.Sym, left []byte, lang int)) {
	var visit func(l []api.Sym, left []byte, lang int)
	visit = func(l []api.Sym, left []byte, lang int) {
		found(l, left, lang)
		if after, ok := bytes.CutPrefix(left, t.Switch); ok {
			visit(l, after, 1-lang)
		}
		for _, s := range pieces(t, lang) {
			next := slices.Clone(l)
			for _, c := range []byte(s) {
				next = append(next, api.Sym{Lang: lang, C: c})
			}
			for _, c := range translationsOf(t, lang, s) {
				if after, ok := bytes.CutPrefix(left, c); ok {
					visit(next, after, lang)
				}
			}
		}
	}
	visit(nil, cells, 0)
}

// translationsOf returns all cells that a step can have that writes a piece.
func translationsOf(t api.Tables, lang int, s string) [][]byte {
	if i := strings.Index("01", s); i >= 0 {
		return [][]byte{t.Digits[i : i+1], slices.Concat(t.Num, t.Digits[i:i+1])}
	}
	small, _, capital := table.Letter(s[0])
	var all [][]byte
	for _, r := range t.Lang[lang].Rules {
		if r.Text == string(small)+s[1:] {
			c := r.Cells
			if capital {
				c = slices.Concat(t.Cap, c)
			}
			all = append(all, c, slices.Concat(t.End, c))
		}
	}
	return all
}

// allModel returns all texts that have cells, in order.
func allModel(t api.Tables, cells []byte) [][]api.Sym {
	var all [][]api.Sym
	guesses(t, cells, func(l []api.Sym, left []byte, _ int) {
		if len(left) == 0 {
			all = append(all, l)
		}
	})
	slices.SortFunc(all, before)
	all = slices.CompactFunc(all, func(a, b []api.Sym) bool { return slices.Equal(a, b) })
	return slices.DeleteFunc(all, func(l []api.Sym) bool { return !has(t, l, cells) })
}

// goodModel returns how many cells some translation begins with: of guessed texts that go on with any piece, or in the other language, and with a letter after it.
func goodModel(t api.Tables, cells []byte) int {
	most := 0
	try := func(l []api.Sym) {
		for _, c := range translations(t, l) {
			n := 0
			for n < min(len(c), len(cells)) && c[n] == cells[n] {
				n++
			}
			most = max(most, n)
		}
	}
	guesses(t, cells, func(l []api.Sym, _ []byte, lang int) {
		l = slices.Clip(l)
		try(append(l, api.Sym{Lang: 1 - lang, C: 'z'}))
		for _, s := range pieces(t, lang) {
			next := slices.Clone(l)
			for _, c := range []byte(s) {
				next = append(next, api.Sym{Lang: lang, C: c})
			}
			try(next)
			try(append(next, api.Sym{Lang: lang, C: 'z'}))
		}
	})
	return most
}

// compare compares the functions with the models.
func compare(test *testing.T, t api.Tables, cells []byte) int {
	all := allModel(t, cells)
	for _, most := range []int{1, 2, 3, 64} {
		got, e := All(t, cells, most)
		if e != api.OK || !equal(got, all[:min(most, len(all))]) {
			test.Fatalf("P9.1: All of %v with %d is %v, %d, not of %v, by %v", cells, most, got, e, all, t)
		}
	}
	l, e := Read(t, cells)
	switch len(all) {
	case 0:
		if e != api.ErrForm || len(l) > 0 {
			test.Fatalf("P9.2: Read of %v without a text is %v, %d", cells, l, e)
		}
	case 1:
		if e != api.OK || !slices.Equal(l, all[0]) {
			test.Fatalf("P9.2: Read of %v is %v, %d, not %v", cells, l, e, all[0])
		}
	default:
		if e != api.ErrOpen || len(l) > 0 {
			test.Fatalf("P9.2: Read of %v with several texts is %v, %d", cells, l, e)
		}
	}
	for _, l := range all {
		if !Is(t, l, cells) {
			test.Fatalf("P9.5: by Is %v does not have %v", l, cells)
		}
	}
	return len(all)
}

func TestP9_1Model(test *testing.T) {
	r := rand.New(rand.NewSource(91))
	counts := map[int]int{}
	for range 400 {
		t := anyTables(r, 2+r.Intn(4))
		for range 4 {
			cells := anyCells(r, 5, 5)
			if all := translations(t, anyText(r, 4, "aabA0. ")); r.Intn(2) == 0 && len(all) > 0 {
				cells = all[r.Intn(len(all))]
				cells = cells[:min(len(cells), 6)]
			}
			counts[min(3, compare(test, t, cells))]++
		}
	}
	for i := range 4 {
		if counts[i] < 50 {
			test.Errorf("P9.1: just %d tests find %d texts", counts[i], i)
		}
	}
}

func TestP9_3Model(test *testing.T) {
	r := rand.New(rand.NewSource(93))
	less := 0
	for range 80 {
		t := anyTables(r, 3+r.Intn(3))
		cells := anyCells(r, 6, 6)
		want := goodModel(t, cells)
		if want < len(cells) {
			less++
		}
		if k, e := Good(t, cells); e != api.OK || k != want {
			test.Fatalf("P9.3: Good of %v is %d, %d, not %d, by %v", cells, k, e, want, t)
		}
	}
	if less < 20 {
		test.Errorf("P9.3: in just %d tests Good is less than the number of cells", less)
	}
}

func TestP9_4Model(test *testing.T) {
	r := rand.New(rand.NewSource(94))
	yes := 0
	for range 3000 {
		t := anyTables(r, 1+r.Intn(4))
		l := anyText(r, 5, usual)
		all := translations(t, l)
		cells := anyCells(r, 8, 4)
		if len(all) > 0 {
			cells = slices.Clone(all[r.Intn(len(all))])
			switch r.Intn(4) {
			case 0:
				cells = append(cells, byte(1+r.Intn(4)))
			case 1:
				cells = cells[:r.Intn(len(cells)+1)]
			}
		}
		want := has(t, l, cells)
		if want {
			yes++
		}
		if Is(t, l, cells) != want {
			test.Fatalf("P9.4: Is of %v and %v is not %t, by %v", l, cells, want, t)
		}
	}
	if yes < 500 || yes > 2500 {
		test.Errorf("P9.4: in %d tests of 3000 a text has the cells", yes)
	}
}

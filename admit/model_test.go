package admit

import (
	"cmp"
	"math/rand"
	"reflect"
	"slices"
	"strings"
	"testing"

	"dactyl/api"
	"dactyl/table"
)

const (
	alphabet = "abcdefghijklmnopqrstuvwxyz"
	capitals = "ABCDEFGHIJKLMNOPQRSTUVWXYZ"
	figures  = "0123456789"
	marks    = " !\"#$%&'()*+,-./:;<=>?@[\\]^_`{|}~"
	signs    = ".- ~"
)

// rule returns a rule.
func rule(text string, where int, cells ...byte) api.Rule {
	return api.Rule{Text: text, Where: where, Cells: cells}
}

// plain returns tables as in P7.8 with the rules of the letters alone, and then these rules in the language 0.
func plain(more ...api.Rule) api.Tables {
	t := api.Tables{Digits: []byte{41, 42, 43, 44, 45, 46, 47, 48, 49, 50}, Cap: []byte{60}, Num: []byte{61}, End: []byte{62}, Switch: []byte{63}}
	for i := range t.Lang {
		for k := range len(alphabet) {
			t.Lang[i].Rules = append(t.Lang[i].Rules, rule(alphabet[k:k+1], api.Any, byte(1+k)))
		}
	}
	t.Lang[0].Rules = append(t.Lang[0].Rules, more...)
	return t
}

// lettered returns plain tables in which some letters of a language have other cells.
func lettered(lang int, cells map[byte][]byte, more ...api.Rule) api.Tables {
	t := plain()
	for c, l := range cells {
		t.Lang[lang].Rules[c-'a'].Cells = l
	}
	t.Lang[lang].Rules = append(t.Lang[lang].Rules, more...)
	return t
}

// copied returns a copy of tables.
func copied(t api.Tables) api.Tables {
	for i, l := range t.Lang {
		t.Lang[i].Rules = slices.Clone(l.Rules)
		for k, r := range l.Rules {
			t.Lang[i].Rules[k].Cells = slices.Clone(r.Cells)
		}
	}
	t.Digits = slices.Clone(t.Digits)
	t.Cap, t.Num, t.End, t.Switch = slices.Clone(t.Cap), slices.Clone(t.Num), slices.Clone(t.End), slices.Clone(t.Switch)
	return t
}

// text returns characters: those of a string, where | goes over to the other language.
func text(s string) []api.Sym {
	var l []api.Sym
	lang := 0
	for i := range len(s) {
		if s[i] == '|' {
			lang = 1 - lang
			continue
		}
		l = append(l, api.Sym{Lang: lang, C: s[i]})
	}
	return l
}

// order compares texts as P7.1 orders them.
func order(a, b []api.Sym) int {
	return slices.CompareFunc(a, b, func(x, y api.Sym) int {
		return cmp.Or(cmp.Compare(x.Lang, y.Lang), cmp.Compare(x.C, y.C))
	})
}

// key returns a string that tells texts apart.
func key(l []api.Sym) string {
	s := ""
	for _, c := range l {
		s += figures[c.Lang:c.Lang+1] + string(rune(c.C))
	}
	return s
}

// letterModel reports whether a character is a letter.
func letterModel(c api.Sym) bool {
	return strings.IndexByte(alphabet+capitals, c.C) >= 0
}

// bounds returns where the word at a place begins and ends.
func bounds(l []api.Sym, at int) (int, int) {
	in := func(i int) bool {
		return i >= 0 && i < len(l) && letterModel(l[i]) && l[i].Lang == l[at].Lang
	}
	start, end := at, at+1
	for in(at) && in(start-1) {
		start--
	}
	for in(at) && in(end) {
		end++
	}
	return start, end
}

// fitsModel reports whether a rule of a language fits at a place.
func fitsModel(r api.Rule, l []api.Sym, at int) bool {
	end := at + len(r.Text)
	if end > len(l) {
		return false
	}
	piece := ""
	for _, c := range l[at:end] {
		if c.Lang != l[at].Lang {
			return false
		}
		piece += string(rune(c.C))
	}
	if strings.ToLower(piece[:1])+piece[1:] != r.Text {
		return false
	}
	wordStart, wordEnd := bounds(l, at)
	return r.Where == api.Any ||
		r.Where == api.Word && at == wordStart && end == wordEnd ||
		r.Where == api.Start && at == wordStart && end != wordEnd ||
		r.Where == api.Inner && at != wordStart
}

// stepsModel returns the steps at a place of valid tables and texts as chapter 6 says them (table.Steps, which checks its arguments each time, takes too long here).
func stepsModel(t api.Tables, s table.State, l []api.Sym, at int) []table.Step {
	c := l[at]
	if c.Lang != s.Lang {
		return []table.Step{{To: table.State{Lang: c.Lang}, Cells: t.Switch, Rule: -1}}
	}
	if d := strings.IndexByte(figures, c.C); d >= 0 {
		cells := []byte{t.Digits[d]}
		if !s.Num {
			cells = slices.Concat(t.Num, cells)
		}
		return []table.Step{{To: table.State{Lang: s.Lang, Num: true}, Len: 1, Cells: cells, Rule: -1}}
	}
	letter := letterModel(c)
	var before []byte
	if letter && s.Num {
		before = slices.Concat(before, t.End)
	}
	if strings.IndexByte(capitals, c.C) >= 0 {
		before = slices.Concat(before, t.Cap)
	}
	var steps []table.Step
	for i, r := range t.Lang[s.Lang].Rules {
		if fitsModel(r, l, at) {
			steps = append(steps, table.Step{To: table.State{Lang: s.Lang, In: letter}, Len: len(r.Text), Cells: slices.Concat(before, r.Cells), Rule: i})
		}
	}
	return steps
}

// translations returns the translations of a text that have at most so many cells.
func translations(t api.Tables, l []api.Sym, most int) map[string]bool {
	found := map[string]bool{}
	var visit func(s table.State, at int, cells string)
	visit = func(s table.State, at int, cells string) {
		if len(cells) > most {
			return
		}
		if at == len(l) {
			found[cells] = true
			return
		}
		for _, step := range stepsModel(t, s, l, at) {
			visit(step.To, at+step.Len, cells+string(step.Cells))
		}
	}
	visit(table.State{}, 0, "")
	return found
}

// candidates returns all texts that can have a translation of at most so many cells (and others), each once.
func candidates(t api.Tables, most int) [][]api.Sym {
	known := map[string]bool{}
	var all [][]api.Sym
	type place struct {
		text      string
		cells     int
		lang, num int
	}
	visited := map[place]bool{}
	var visit func(l []api.Sym, lang int, num bool, cells int)
	visit = func(l []api.Sym, lang int, num bool, cells int) {
		p := place{key(l), cells, lang, len(figures)}
		if !num {
			p.num = 0
		}
		if visited[p] {
			return
		}
		visited[p] = true
		if !known[p.text] {
			known[p.text] = true
			all = append(all, l)
		}
		add := func(s string, to int, num bool, cells int) {
			if cells <= most {
				next := slices.Clone(l)
				for i := range len(s) {
					next = append(next, api.Sym{Lang: to, C: s[i]})
				}
				visit(next, to, num, cells)
			}
		}
		for to := range 2 {
			used, num := cells, num
			if to != lang {
				used, num = used+len(t.Switch), false
			}
			for d := range len(figures) {
				n := used + 1
				if !num {
					n += len(t.Num)
				}
				add(figures[d:d+1], to, true, n)
			}
			for _, r := range t.Lang[to].Rules {
				n := used + len(r.Cells)
				if !strings.Contains(alphabet, r.Text[:1]) {
					add(r.Text, to, false, n)
					continue
				}
				if num {
					n += len(t.End)
				}
				add(r.Text, to, false, n)
				add(strings.ToUpper(r.Text[:1])+r.Text[1:], to, false, n+len(t.Cap))
			}
		}
	}
	visit(nil, 0, false, 0)
	return all
}

// firstShared returns the first two texts with the first cells that two different texts share, as P7.1 says it, if they share any of at most so many cells.
func firstShared(t api.Tables, most int) (string, [2][]api.Sym, bool) {
	having := map[string][][]api.Sym{}
	best, found := "", false
	for _, l := range candidates(t, most) {
		for cells := range translations(t, l, most) {
			having[cells] = append(having[cells], l)
			before := len(cells) < len(best) || len(cells) == len(best) && cells < best
			if len(having[cells]) > 1 && (!found || before) {
				best, found = cells, true
			}
		}
	}
	if !found {
		return "", [2][]api.Sym{}, false
	}
	l := having[best]
	slices.SortFunc(l, order)
	return best, [2][]api.Sym{l[0], l[1]}, true
}

// fewCells returns up to so many cells from 1 to a greatest one.
func fewCells(r *rand.Rand, most, greatest int) []byte {
	l := make([]byte, 1+r.Intn(most))
	for i := range l {
		l[i] = byte(1 + r.Intn(greatest))
	}
	return l
}

// anyTables returns valid tables in which little can be written with few cells: a, b, the digits 0 and 1, and some more rules; all others have four cells.
func anyTables(r *rand.Rand) api.Tables {
	t := plain()
	greatest := 2 + r.Intn(12)
	for i := range t.Lang {
		for k := range t.Lang[i].Rules {
			t.Lang[i].Rules[k].Cells = []byte{60, byte(20 + k), 60, 60}
		}
		for k := range 2 - i {
			t.Lang[i].Rules[k].Cells = fewCells(r, 3, greatest)
		}
		known := map[string]bool{"a0": true, "b0": true}
		for range r.Intn(7) {
			s, where := "", r.Intn(4)
			for range 1 + r.Intn(3) {
				s += string(rune('a' + r.Intn(2)))
			}
			if r.Intn(4) == 0 {
				s, where = signs[r.Intn(4):][:1], api.Any
			}
			if id := s + figures[where:where+1]; !known[id] {
				known[id] = true
				t.Lang[i].Rules = append(t.Lang[i].Rules, rule(s, where, fewCells(r, 3, greatest)...))
			}
		}
		rules := t.Lang[i].Rules
		r.Shuffle(len(rules), func(a, b int) { rules[a], rules[b] = rules[b], rules[a] })
	}
	for i := range 2 {
		t.Digits[i] = byte(1 + r.Intn(greatest))
	}
	t.Cap, t.Num, t.End, t.Switch = fewCells(r, 3, greatest), append(fewCells(r, 1, greatest), fewCells(r, 2, greatest)...), fewCells(r, 2, greatest), fewCells(r, 2, greatest)
	return t
}

// anyText returns a text of some of these characters in both languages.
func anyText(r *rand.Rand, most int, from string) []api.Sym {
	l := make([]api.Sym, r.Intn(most+1))
	lang := r.Intn(2)
	for i := range l {
		if r.Intn(5) == 0 {
			lang = 1 - lang
		}
		l[i] = api.Sym{Lang: lang, C: from[r.Intn(len(from))]}
	}
	return l
}

// TestModelSteps compares the steps of the model with those of package table, on which the chapter is built.
func TestModelSteps(test *testing.T) {
	r := rand.New(rand.NewSource(1))
	for range 300 {
		t := anyTables(r)
		l := anyText(r, 8, "aabbAB01.- ~c")
		for at := range l {
			for _, s := range []table.State{{}, {Num: true}, {In: true}, {Lang: 1}, {Lang: 1, Num: true}} {
				got, want := stepsModel(t, s, l, at), table.Steps(t, s, l, at)
				if !(len(got) == 0 && len(want) == 0) && !reflect.DeepEqual(got, want) {
					test.Fatalf("the model of the steps at %d of %v from %v is %v, not %v", at, l, s, got, want)
				}
			}
		}
	}
}

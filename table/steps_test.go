package table

import (
	"math"
	"math/rand"
	"reflect"
	"slices"
	"strings"
	"testing"

	"dactyl/api"
)

// by returns a step by a rule.
func by(to State, length, rule int, cells ...byte) Step {
	return Step{To: to, Len: length, Cells: cells, Rule: rule}
}

// states are all states whose language is valid.
func states() []State {
	var l []State
	for lang := range 2 {
		for _, num := range []bool{false, true} {
			l = append(l, State{lang, num, false}, State{lang, num, true})
		}
	}
	return l
}

// equalSteps reports whether two lists of steps are equal, where nil and empty lists are the same.
func equalSteps(a, b []Step) bool {
	return len(a) == 0 && len(b) == 0 || reflect.DeepEqual(a, b)
}

// bounds returns where the word at a place begins and ends, as the chapter says it: by all words of the text.
func bounds(l []api.Sym, at int) (int, int) {
	letter := func(c api.Sym) bool { return strings.IndexByte(alphabet+capitals, c.C) >= 0 }
	for start := 0; start < len(l); {
		end := start + 1
		for letter(l[start]) && end < len(l) && letter(l[end]) && l[end].Lang == l[start].Lang {
			end++
		}
		if at < end {
			return start, end
		}
		start = end
	}
	return at, at
}

// fitsModel reports whether a rule of a language fits at a place.
func fitsModel(r api.Rule, lang int, l []api.Sym, at int) bool {
	end := at + len(r.Text)
	if end > len(l) {
		return false
	}
	piece := ""
	for _, c := range l[at:end] {
		if c.Lang != lang {
			return false
		}
		piece += string(rune(c.C))
	}
	if strings.ToLower(piece[:1])+piece[1:] != r.Text {
		return false
	}
	wordStart, wordEnd := bounds(l, at)
	return r.Where == api.Any ||
		r.Where == api.Word && at == wordStart && end == wordEnd ||
		r.Where == api.Start && at == wordStart && end != wordEnd ||
		r.Where == api.Inner && at != wordStart
}

// model returns the steps at a place, as the chapter says it.
func model(t api.Tables, s State, l []api.Sym, at int) []Step {
	c := l[at]
	if c.Lang != s.Lang {
		return []Step{by(State{Lang: c.Lang}, 0, -1, t.Switch...)}
	}
	if d := strings.IndexByte(decimals, c.C); d >= 0 {
		cells := ""
		if !s.Num {
			cells = string(t.Num)
		}
		return []Step{by(State{s.Lang, true, false}, 1, -1, []byte(cells+string(t.Digits[d:d+1]))...)}
	}
	capital := strings.IndexByte(capitals, c.C) >= 0
	letter := capital || strings.IndexByte(alphabet, c.C) >= 0
	var steps []Step
	for i, r := range t.Lang[s.Lang].Rules {
		if !fitsModel(r, s.Lang, l, at) {
			continue
		}
		cells := string(r.Cells)
		if capital {
			cells = string(t.Cap) + cells
		}
		if letter && s.Num {
			cells = string(t.End) + cells
		}
		steps = append(steps, by(State{s.Lang, false, letter}, len(r.Text), i, []byte(cells)...))
	}
	return steps
}

// anyCells returns cells of a table.
func anyCells(r *rand.Rand) []byte {
	l := make([]byte, 1+r.Intn(4))
	for i := range l {
		l[i] = byte(1 + r.Intn(63))
	}
	return l
}

// anyTables returns valid tables with rules of the first two letters, and of some other characters.
func anyTables(r *rand.Rand) api.Tables {
	t := plain()
	for i := range t.Digits {
		t.Digits[i] = byte(1 + r.Intn(63))
	}
	for _, l := range indicators(&t) {
		*l = anyCells(r)
	}
	for i := range t.Lang {
		known := map[string]bool{}
		for range r.Intn(60) {
			s, where := "", r.Intn(4)
			for range 1 + r.Intn(4) {
				s += []string{"a", "b"}[r.Intn(2)]
			}
			if r.Intn(6) == 0 {
				s, where = []string{" ", ".", "~", "-"}[r.Intn(4)], api.Any
			}
			id := s + decimals[where:where+1]
			if !known[id] && (len(s) > 1 || where != api.Any || strings.Contains(" .~-", s)) {
				known[id] = true
				t.Lang[i].Rules = append(t.Lang[i].Rules, rule(s, where, anyCells(r)...))
			}
		}
		rules := t.Lang[i].Rules
		r.Shuffle(len(rules), func(a, b int) { rules[a], rules[b] = rules[b], rules[a] })
	}
	return t
}

func TestP6_3Examples(test *testing.T) {
	in, out := State{In: true}, State{}
	for i, c := range []struct {
		l    []api.Sym
		at   int
		s    State
		want []Step
	}{
		{text(0, "An"), 0, State{}, []Step{by(in, 1, 0, 60, 1), by(in, 2, 26, 60, 30), by(in, 2, 27, 60, 31)}},
		{text(0, "ban"), 1, State{}, []Step{by(in, 1, 0, 1), by(in, 2, 26, 30)}},
		{text(0, "ban"), 2, State{}, []Step{by(in, 1, 13, 14), by(in, 1, 28, 32)}},
		{text(0, "7."), 0, State{}, []Step{by(State{Num: true}, 1, -1, 61, 48)}},
		{text(0, "7a"), 1, State{Num: true}, []Step{by(in, 1, 0, 62, 1)}},
		{text(0, "7."), 1, State{Num: true}, []Step{by(out, 1, 29, 33)}},
		{text(1, "a"), 0, State{}, []Step{by(State{Lang: 1}, 0, -1, 63)}},
		{text(0, "7"), 0, State{0, true, true}, []Step{by(State{Num: true}, 1, -1, 48)}},
		{text(0, "7A"), 1, State{Num: true}, []Step{by(in, 1, 0, 62, 60, 1)}},
		{text(0, "a"), 0, State{1, true, true}, []Step{by(out, 0, -1, 63)}},
		{text(0, "1"), 0, State{1, true, true}, []Step{by(out, 0, -1, 63)}},
		{text(0, "."), 0, State{1, false, false}, []Step{by(out, 0, -1, 63)}},
		{text(0, "?"), 0, State{}, nil},
		{text(1, "."), 0, State{Lang: 1}, nil},
	} {
		if got := Steps(sample(), c.s, c.l, c.at); !equalSteps(got, c.want) {
			test.Errorf("P6.3: the steps of the example %d are %v", i, got)
		}
	}
}

func TestP6_3Contexts(test *testing.T) {
	t := plain(rule("ab", api.Inner, 33), rule("ab", api.Start, 32), rule("ab", api.Word, 31), rule("ab", api.Any, 30), rule("-", api.Any, 34))
	ab := func(s string) []api.Sym { return text(0, s) }
	other := func(s, other, rest string) []api.Sym { return slices.Concat(text(0, s), text(1, other), text(0, rest)) }
	for i, c := range []struct {
		l     []api.Sym
		at    int
		rules []int
	}{
		{ab("ab"), 0, []int{0, 28, 29}},
		{ab("Ab"), 0, []int{0, 28, 29}},
		{ab("aB"), 0, []int{0}},
		{ab("AB"), 0, []int{0}},
		{ab("abc"), 0, []int{0, 27, 29}},
		{ab("abC"), 0, []int{0, 27, 29}},
		{ab("cab"), 1, []int{0, 26, 29}},
		{ab("Cabc"), 1, []int{0, 26, 29}},
		{ab("cAb"), 1, []int{0, 26, 29}},
		{ab("-ab-"), 1, []int{0, 28, 29}},
		{ab("1ab2"), 1, []int{0, 28, 29}},
		{ab("a"), 0, []int{0}},
		{ab("a-b"), 0, []int{0}},
		{ab("a1b"), 0, []int{0}},
		{ab("-ab"), 0, []int{30}},
		{ab("x-b"), 1, []int{30}},
		{other("ab", "ab", ""), 0, []int{0, 28, 29}},
		{other("", "ab", "ab"), 2, []int{0, 28, 29}},
		{other("a", "b", ""), 0, []int{0}},
		{other("c", "c", "ab"), 2, []int{0, 28, 29}},
		{other("cab", "c", "ab"), 1, []int{0, 26, 29}},
		{other("abc", "c", "ab"), 0, []int{0, 27, 29}},
	} {
		var rules []int
		for _, s := range Steps(t, State{}, c.l, c.at) {
			rules = append(rules, s.Rule)
		}
		if !slices.Equal(rules, c.rules) {
			test.Errorf("P6.3: the rules %v fit in the example %d, not %v", rules, i, c.rules)
		}
	}
}

func TestP6_3Digits(test *testing.T) {
	t := plain()
	t.Num = []byte{5, 6, 7, 8}
	for d := range 10 {
		for lang := range 2 {
			for _, in := range []bool{false, true} {
				l, to := text(lang, decimals[d:d+1]), State{lang, true, false}
				if got := Steps(t, State{lang, true, in}, l, 0); !equalSteps(got, []Step{by(to, 1, -1, byte(41+d))}) {
					test.Errorf("P6.3: the steps of the digit %d after another one are %v", d, got)
				}
				if got := Steps(t, State{lang, false, in}, l, 0); !equalSteps(got, []Step{by(to, 1, -1, 5, 6, 7, 8, byte(41+d))}) {
					test.Errorf("P6.3: the steps of the digit %d are %v", d, got)
				}
			}
		}
	}
}

func TestP6_3Model(test *testing.T) {
	r := rand.New(rand.NewSource(63))
	for range 300 {
		t := anyTables(r)
		if e := Valid(t); e != api.OK {
			test.Fatalf("P6.1: Valid of tables is %d", e)
		}
		for range 10 {
			l := anyText(r, 12, "aaabbbABz1 .~")
			kept, text := copied(t), slices.Clone(l)
			for at := range l {
				for _, s := range states() {
					if got, want := Steps(t, s, l, at), model(t, s, l, at); !equalSteps(got, want) {
						test.Fatalf("P6.3: the steps of %v at %d in %v are %v, not %v", l, at, s, got, want)
					}
				}
			}
			if !same(t, kept) || !slices.Equal(l, text) {
				test.Fatal("P6.3: Steps changes its arguments")
			}
		}
	}
}

func TestP6_3Longest(test *testing.T) {
	t := plain(rule("abcdefgh", api.Any, 1, 2, 3, 4), rule("abcdefgh", api.Word, 5))
	t.Cap, t.End = []byte{11, 12, 13, 14}, []byte{21, 22, 23, 24}
	in := State{In: true}
	want := []Step{by(in, 1, 0, 21, 22, 23, 24, 11, 12, 13, 14, 1), by(in, 8, 26, 21, 22, 23, 24, 11, 12, 13, 14, 1, 2, 3, 4), by(in, 8, 27, 21, 22, 23, 24, 11, 12, 13, 14, 5)}
	if got := Steps(t, State{Num: true}, text(0, "1Abcdefgh"), 1); !equalSteps(got, want) {
		test.Errorf("P6.3: the steps of eight letters are %v", got)
	}
	if got := Steps(t, State{Num: true}, text(0, "1Abcdefg"), 1); !equalSteps(got, want[:1]) {
		test.Errorf("P6.3: the steps of seven letters are %v", got)
	}
	long := text(0, strings.Repeat("a", 5000)+"bcdefgh")
	if got := Steps(t, State{}, long, 4999); len(got) != 2 {
		test.Errorf("P6.3: a long text has the steps %v", got)
	}
}

func TestP6_3None(test *testing.T) {
	l := text(0, "an")
	for _, at := range []int{-1, 2, 3, math.MinInt, math.MaxInt} {
		if got := Steps(sample(), State{}, l, at); len(got) != 0 {
			test.Errorf("P6.3: the steps at %d are %v", at, got)
		}
	}
	for _, lang := range []int{-1, 2, math.MinInt, math.MaxInt} {
		if got := Steps(sample(), State{Lang: lang}, l, 0); len(got) != 0 {
			test.Errorf("P6.3: the steps in the language %d are %v", lang, got)
		}
	}
	for _, c := range []api.Sym{{Lang: 0, C: 31}, {Lang: 0, C: 127}, {Lang: 0, C: 0xE9}, {Lang: 2, C: 'a'}, {Lang: -1, C: 'a'}, {Lang: 2, C: 0}} {
		for at := range 4 {
			wrong := slices.Concat(text(0, "an an"), []api.Sym{c}, text(0, " an"))
			if got := Steps(sample(), State{}, wrong, at); len(got) != 0 {
				test.Errorf("P6.3: the steps before the character %v are %v", c, got)
			}
			if got := Steps(sample(), State{Lang: c.Lang}, []api.Sym{c}, 0); len(got) != 0 {
				test.Errorf("P6.3: the steps of the character %v are %v", c, got)
			}
			if got := Steps(sample(), State{}, append([]api.Sym{c}, l...), 1); len(got) != 0 {
				test.Errorf("P6.3: the steps after the character %v are %v", c, got)
			}
		}
	}
	if got := Steps(sample(), State{}, nil, 0); len(got) != 0 {
		test.Errorf("P6.3: no characters have the steps %v", got)
	}
}

func TestP6_3NotValid(test *testing.T) {
	noZ, noSwitch, noDigit, limit, twice := sample(), sample(), sample(), full(1, 97), sample()
	noZ.Lang[1].Rules = noZ.Lang[1].Rules[:25]
	noSwitch.Switch = nil
	noDigit.Digits = noDigit.Digits[:9]
	twice.Lang[1].Rules = append(twice.Lang[1].Rules, twice.Lang[1].Rules[0])
	for i, t := range []api.Tables{{}, noZ, noSwitch, noDigit, limit, twice} {
		for at, c := range slices.Concat(text(0, "a1"), text(1, "a1")) {
			for _, s := range states() {
				if got := Steps(t, s, []api.Sym{c}, 0); len(got) != 0 {
					test.Errorf("P6.3: the tables %d, which are not valid, have the steps %v at %d", i, got, at)
				}
			}
		}
	}
}

func TestP6_3Memory(test *testing.T) {
	t := sample()
	t.Digits = append(t.Digits, 1)[:10]
	kept := copied(t)
	l := text(0, "7An.")
	for _, s := range states() {
		for at := range l {
			got := Steps(t, s, l, at)
			want := model(t, s, l, at)
			for i := range got {
				whole := got[i].Cells[:cap(got[i].Cells)]
				for k := range whole {
					whole[k] = 99
				}
				got[i] = want[i]
				if !equalSteps(got, want) || !same(t, kept) {
					test.Fatalf("P6.3: the cells of the step %d at %d share memory", i, at)
				}
			}
		}
	}
}

func TestP6_5Always(test *testing.T) {
	r := rand.New(rand.NewSource(65))
	for i := range 200 {
		t := plain()
		if i > 0 {
			t = anyTables(r)
		}
		l := anyText(r, 60, alphabet+capitals+decimals)
		for at := range l {
			for _, s := range states() {
				steps := Steps(t, s, l, at)
				if len(steps) == 0 {
					test.Fatalf("P6.5: no step of %v at %d in %v", l, at, s)
				}
				for _, step := range steps {
					if step.Len > 0 {
						continue
					}
					for _, next := range Steps(t, step.To, l, at) {
						if next.Len == 0 {
							test.Fatalf("P6.5: two steps without characters at %d in %v", at, s)
						}
					}
				}
			}
		}
	}
}

// around returns a text with the same characters from start to end, and other ones before and after them, where that place is moved.
func around(r *rand.Rand, l []api.Sym, start, end int) ([]api.Sym, int) {
	apart := func() api.Sym {
		if r.Intn(2) == 0 {
			return api.Sym{Lang: 1 - l[start].Lang, C: "abA1 "[r.Intn(5)]}
		}
		return api.Sym{Lang: l[start].Lang, C: "01 .~?"[r.Intn(6)]}
	}
	var before, after []api.Sym
	if r.Intn(4) > 0 {
		before = append(anyText(r, 6, "aabbA1 ."), apart())
	}
	if r.Intn(4) > 0 {
		after = append([]api.Sym{apart()}, anyText(r, 6, "aabbA1 .")...)
	}
	return slices.Concat(before, l[start:end], after), len(before)
}

func TestP6_6Local(test *testing.T) {
	r := rand.New(rand.NewSource(66))
	for range 2000 {
		t := anyTables(r)
		l := anyText(r, 10, "aaabbbAB1 .~")
		if len(l) == 0 {
			continue
		}
		at := r.Intn(len(l))
		start, end := bounds(l, at)
		other, moved := around(r, l, start, end)
		for _, s := range states() {
			if a, b := Steps(t, s, l, at), Steps(t, s, other, moved+at-start); !equalSteps(a, b) {
				test.Fatalf("P6.6: %v at %d has the steps %v, in %v it has %v", l, at, a, other, b)
			}
		}
	}
}

func TestP6_8MoreRules(test *testing.T) {
	r := rand.New(rand.NewSource(68))
	for range 500 {
		t := anyTables(r)
		lang := r.Intn(2)
		more := copied(t)
		s := []string{"aba", "bb", "?", "b", "ab"}[r.Intn(5)]
		where := r.Intn(4)
		if s == "?" {
			where = api.Any
		}
		more.Lang[lang].Rules = append(more.Lang[lang].Rules, rule(s, where, 1))
		if Valid(more) != api.OK {
			continue
		}
		l := anyText(r, 12, "aaabbbABz1 .~?")
		for at := range l {
			for _, state := range states() {
				before, after := Steps(t, state, l, at), Steps(more, state, l, at)
				if len(after) < len(before) || len(after) > len(before)+1 || !equalSteps(before, after[:len(before)]) {
					test.Fatalf("P6.8: with one rule more, the steps %v become %v", before, after)
				}
			}
		}
	}
}

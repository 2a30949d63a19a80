package table

import (
	"math"
	"math/rand"
	"reflect"
	"slices"
	"strings"
	"testing"

	"dactyl/api"
)

const (
	alphabet  = "abcdefghijklmnopqrstuvwxyz"
	capitals  = "ABCDEFGHIJKLMNOPQRSTUVWXYZ"
	decimals  = "0123456789"
	mostRules = 96
	mostSyms  = 2048
)

// rule returns a rule.
func rule(text string, where int, cells ...byte) api.Rule {
	return api.Rule{Text: text, Where: where, Cells: cells}
}

// plain returns tables with the rules of the letters alone, and then these rules in the language 0.
func plain(more ...api.Rule) api.Tables {
	t := api.Tables{Digits: []byte{41, 42, 43, 44, 45, 46, 47, 48, 49, 50}, Cap: []byte{60}, Num: []byte{61}, End: []byte{62}, Switch: []byte{63}}
	for i := range t.Lang {
		for k := range len(alphabet) {
			t.Lang[i].Rules = append(t.Lang[i].Rules, rule(alphabet[k:k+1], api.Any, byte(1+k)))
		}
	}
	t.Lang[0].Rules = append(t.Lang[0].Rules, more...)
	return t
}

// sample returns the tables of the chapter's examples.
func sample() api.Tables {
	return plain(rule("an", api.Any, 30), rule("an", api.Word, 31), rule("n", api.Inner, 32), rule(".", api.Any, 33))
}

// full returns tables with so many rules in a language.
func full(lang, rules int) api.Tables {
	t := plain()
	for i := range rules - 26 {
		text := string([]byte{alphabet[i/26], alphabet[i%26]})
		t.Lang[lang].Rules = append(t.Lang[lang].Rules, rule(text, api.Any, 1))
	}
	return t
}

// indicators returns the lists of tables that are cells of a table.
func indicators(t *api.Tables) []*[]byte {
	return []*[]byte{&t.Cap, &t.Num, &t.End, &t.Switch}
}

// copied returns a copy of tables.
func copied(t api.Tables) api.Tables {
	for i, l := range t.Lang {
		t.Lang[i].Rules = slices.Clone(l.Rules)
		for k, r := range l.Rules {
			t.Lang[i].Rules[k].Cells = slices.Clone(r.Cells)
		}
	}
	t.Digits = slices.Clone(t.Digits)
	for _, l := range indicators(&t) {
		*l = slices.Clone(*l)
	}
	return t
}

// same reports whether tables are equal, where nil and empty lists are the same.
func same(a, b api.Tables) bool {
	equal := bytesEqual(a.Digits, b.Digits)
	for i, l := range indicators(&a) {
		equal = equal && bytesEqual(*l, *indicators(&b)[i])
	}
	for i := range a.Lang {
		equal = equal && slices.EqualFunc(a.Lang[i].Rules, b.Lang[i].Rules, func(r, s api.Rule) bool {
			return r.Text == s.Text && r.Where == s.Where && bytesEqual(r.Cells, s.Cells)
		})
	}
	return equal
}

// bytesEqual reports whether two lists of bytes are equal.
func bytesEqual(a, b []byte) bool {
	return string(a) == string(b)
}

// text returns the characters of a string in a language.
func text(lang int, s string) []api.Sym {
	var l []api.Sym
	for i := range len(s) {
		l = append(l, api.Sym{Lang: lang, C: s[i]})
	}
	return l
}

// anyText returns a text of some of these characters in both languages.
func anyText(r *rand.Rand, most int, from string) []api.Sym {
	l := make([]api.Sym, r.Intn(most+1))
	lang := r.Intn(2)
	for i := range l {
		if r.Intn(5) == 0 {
			lang = 1 - lang
		}
		l[i] = api.Sym{Lang: lang, C: from[r.Intn(len(from))]}
	}
	return l
}

// allCharacters returns the characters of a language.
func allCharacters() string {
	s := ""
	for c := 32; c <= 126; c++ {
		s += string(rune(c))
	}
	return s
}

// expect checks the result of Valid.
func expect(test *testing.T, what string, t api.Tables, want api.Errno) {
	test.Helper()
	before := copied(t)
	if e := Valid(t); e != want {
		test.Errorf("P6.1: Valid with %q is %d, not %d", what, e, want)
	}
	if !same(t, before) {
		test.Errorf("P6.1: Valid with %q changes its argument", what)
	}
}

func TestP6_1Ordinary(test *testing.T) {
	expect(test, "the letters alone", plain(), api.OK)
	expect(test, "the rules of the examples", sample(), api.OK)
	swapped := sample()
	swapped.Lang[0], swapped.Lang[1] = swapped.Lang[1], swapped.Lang[0]
	expect(test, "these rules in the other language", swapped, api.OK)
	turned := sample()
	slices.Reverse(turned.Lang[0].Rules)
	expect(test, "rules in another order", turned, api.OK)
	expect(test, "a text in all contexts", plain(rule("an", 3, 1), rule("an", 2, 1), rule("an", 1, 1), rule("an", 0, 1)), api.OK)
	alike := plain()
	alike.Digits = slices.Repeat([]byte{7}, 10)
	for _, l := range indicators(&alike) {
		*l = []byte{7, 7, 7, 7}
	}
	for i := range alike.Lang {
		for k := range alike.Lang[i].Rules {
			alike.Lang[i].Rules[k].Cells = []byte{7}
		}
	}
	expect(test, "the same cells everywhere", alike, api.OK)
}

func TestP6_1Limit(test *testing.T) {
	for lang := range 2 {
		expect(test, "96 rules", full(lang, mostRules), api.OK)
		expect(test, "97 rules", full(lang, mostRules+1), api.ErrLimit)
		other := full(lang, mostRules+1)
		other.Lang[1-lang].Rules = append(other.Lang[1-lang].Rules, rule("", 9))
		other.Digits = nil
		expect(test, "97 rules, and a rule and digits that are not valid", other, api.ErrLimit)
		twice := full(lang, mostRules)
		twice.Lang[lang].Rules = append(twice.Lang[lang].Rules, rule("a", api.Any, 1))
		expect(test, "97 rules, one of them twice", twice, api.ErrLimit)
		expect(test, "97 rules without that of a", api.Tables{Lang: [2]api.Table{{Rules: slices.Repeat([]api.Rule{rule("b", 0, 1)}, 97)}}}, api.ErrLimit)
	}
	both := full(0, mostRules)
	both.Lang[1] = full(1, mostRules).Lang[1]
	expect(test, "96 rules in both languages", both, api.OK)
}

func TestP6_1Text(test *testing.T) {
	for b := range 256 {
		c := string([]byte{byte(b)})
		want := api.ErrArg
		switch {
		case strings.Contains(alphabet, c):
			want = api.ErrTwice
		case b >= 32 && b <= 126 && !strings.Contains(capitals+decimals, c):
			want = api.OK
		}
		expect(test, "the text "+c, plain(rule(c, api.Any, 1)), want)
		for _, s := range []string{c + "a", "a" + c, "abc" + c + "def", c + "."} {
			want := api.ErrArg
			if strings.Contains(alphabet, c) && !strings.Contains(s, ".") {
				want = api.OK
			}
			expect(test, "the text "+s, plain(rule(s, api.Any, 1)), want)
		}
	}
	for _, s := range []string{"", "..", "  ", "abcdefghi", "An", "aN", "12", "\u00e4", strings.Repeat("a", 1000)} {
		expect(test, "the text "+s, plain(rule(s, api.Any, 1)), api.ErrArg)
	}
	for n := 2; n <= 8; n++ {
		expect(test, "the text "+alphabet[:n], plain(rule(alphabet[:n], api.Any, 1)), api.OK)
	}
}

func TestP6_1Where(test *testing.T) {
	for _, where := range []int{-1, 4, 256, 1 << 32, math.MinInt, math.MaxInt} {
		for _, s := range []string{"a", "an", " ", "."} {
			expect(test, "an unknown context", plain(rule(s, where, 1)), api.ErrArg)
		}
	}
	for where := range 4 {
		expect(test, "letters in a context", plain(rule("abcdefgh", where, 1)), api.OK)
		want := api.ErrArg
		if where == api.Any {
			want = api.OK
		}
		expect(test, "a blank in a context", plain(rule(" ", where, 1)), want)
		expect(test, "a tilde in a context", plain(rule("~", where, 1)), want)
	}
}

// lists are lists of bytes, and whether they are cells of a table.
func lists() map[string]bool {
	m := map[string]bool{"": false, "\x01\x02": true, "\x3f\x3f\x3f": true, "\x01\x02\x03\x04": true, "\x01\x02\x03\x04\x05": false, "\x01\x00": false, "\x01\x02\x03\x40": false, "\x00\x01": false, "\xff\x01": false}
	for b := range 256 {
		m[string([]byte{byte(b)})] = b >= 1 && b <= 63
	}
	return m
}

func TestP6_1Cells(test *testing.T) {
	for l, good := range lists() {
		want := api.ErrArg
		if good {
			want = api.OK
		}
		for lang := range 2 {
			t := plain()
			t.Lang[lang].Rules = append(t.Lang[lang].Rules, rule("an", api.Word, []byte(l)...))
			expect(test, "the cells of a rule", t, want)
		}
		for i := range 4 {
			t := plain()
			*indicators(&t)[i] = []byte(l)
			expect(test, "the cells of an indicator", t, want)
		}
	}
	for n := range 30 {
		t := plain()
		t.Digits = slices.Repeat([]byte{1}, n)
		want := api.ErrArg
		if n == 10 {
			want = api.OK
		}
		expect(test, "a number of digits", t, want)
	}
	for i := range 10 {
		for b := range 256 {
			t := plain()
			t.Digits[i] = byte(b)
			want := api.ErrArg
			if b >= 1 && b <= 63 {
				want = api.OK
			}
			expect(test, "a byte as the cell of a digit", t, want)
		}
	}
}

func TestP6_1Twice(test *testing.T) {
	for lang := range 2 {
		for _, r := range []api.Rule{rule("a", api.Any, 50), rule("an", api.Word, 9), rule("an", api.Inner, 9), rule(" ", api.Any, 8)} {
			t := plain()
			l := &t.Lang[lang]
			l.Rules = append(l.Rules, rule("an", api.Word, 1), rule("an", api.Inner, 1), rule(" ", api.Any, 8), r)
			expect(test, "two rules with the same text and context", t, api.ErrTwice)
			l.Rules = slices.DeleteFunc(l.Rules, func(r api.Rule) bool { return r.Text == "q" })
			expect(test, "such rules, and without one for q", t, api.ErrTwice)
			t.End = nil
			expect(test, "such rules, and without End", t, api.ErrArg)
		}
	}
	t := sample()
	t.Lang[1].Rules = append(t.Lang[1].Rules, t.Lang[0].Rules[26:]...)
	expect(test, "the same rules in both languages", t, api.OK)
}

func TestP6_1None(test *testing.T) {
	for lang := range 2 {
		for i := range len(alphabet) {
			t := sample()
			l := &t.Lang[lang]
			l.Rules = slices.Delete(l.Rules, i, i+1)
			expect(test, "a letter without a rule", t, api.ErrNone)
			c := alphabet[i : i+1]
			for where := api.Word; where <= api.Inner; where++ {
				if c == "n" && lang == 0 && where == api.Inner {
					continue
				}
				l.Rules = append(l.Rules, rule(c, where, 1))
				expect(test, "a letter in some contexts alone", t, api.ErrNone)
			}
			l.Rules = append(l.Rules, rule(c+c, api.Any, 1))
			expect(test, "a letter twice", t, api.ErrNone)
			l.Rules = append(l.Rules, rule(c, api.Any, 1))
			expect(test, "a letter at the end", t, api.OK)
		}
	}
	expect(test, "no rules", api.Tables{Digits: plain().Digits, Cap: []byte{1}, Num: []byte{1}, End: []byte{1}, Switch: []byte{1}}, api.ErrNone)
	expect(test, "nothing", api.Tables{}, api.ErrArg)
}

func TestP6_2Letter(test *testing.T) {
	for b := range 256 {
		c := byte(b)
		want, letter, capital := c, strings.IndexByte(alphabet, c) >= 0, false
		if i := strings.IndexByte(capitals, c); i >= 0 {
			want, letter, capital = alphabet[i], true, true
		}
		if x, y, z := Letter(c); x != want || y != letter || z != capital {
			test.Errorf("P6.2: Letter(%d) is %d, %t, %t", c, x, y, z)
		}
	}
}

func TestP6_2Symbols(test *testing.T) {
	run := func(lang int, s string) api.Run { return api.Run{Lang: lang, Text: s} }
	long := strings.Repeat("x", mostSyms)
	for i, c := range []struct {
		l    []api.Run
		want []api.Sym
		e    api.Errno
	}{
		{nil, nil, api.OK},
		{[]api.Run{}, nil, api.OK},
		{[]api.Run{run(0, ""), run(1, "")}, nil, api.OK},
		{[]api.Run{run(0, "a B")}, []api.Sym{{Lang: 0, C: 'a'}, {Lang: 0, C: ' '}, {Lang: 0, C: 'B'}}, api.OK},
		{[]api.Run{run(1, "a"), run(1, ""), run(0, "~"), run(0, "1")}, []api.Sym{{Lang: 1, C: 'a'}, {Lang: 0, C: '~'}, {Lang: 0, C: '1'}}, api.OK},
		{[]api.Run{run(0, allCharacters()), run(1, allCharacters())}, append(text(0, allCharacters()), text(1, allCharacters())...), api.OK},
		{[]api.Run{run(0, "a"), run(2, "b")}, nil, api.ErrArg},
		{[]api.Run{run(-1, "b")}, nil, api.ErrArg},
		{[]api.Run{run(0, "a"), run(2, "")}, nil, api.ErrArg},
		{[]api.Run{run(math.MaxInt, ""), run(math.MinInt, "")}, nil, api.ErrArg},
		{[]api.Run{run(0, "a\u00e9")}, nil, api.ErrArg},
		{[]api.Run{run(0, long)}, text(0, long), api.OK},
		{[]api.Run{run(0, long), run(1, "")}, text(0, long), api.OK},
		{[]api.Run{run(0, long+"y")}, nil, api.ErrLimit},
		{[]api.Run{run(0, long), run(1, "y")}, nil, api.ErrLimit},
		{[]api.Run{run(1, "y"), run(0, long[1:])}, append(text(1, "y"), text(0, long[1:])...), api.OK},
		{[]api.Run{run(0, long), run(0, long), run(3, "y")}, nil, api.ErrArg},
		{[]api.Run{run(0, long+"\n")}, nil, api.ErrArg},
	} {
		before := slices.Clone(c.l)
		if l, e := Symbols(c.l); e != c.e || !slices.Equal(l, c.want) {
			test.Errorf("P6.2: Symbols %d has the error %d and %d characters", i, e, len(l))
		}
		if !slices.Equal(c.l, before) {
			test.Errorf("P6.2: Symbols %d changes its argument", i)
		}
	}
	for b := range 256 {
		want := api.ErrArg
		if b >= 32 && b <= 126 {
			want = api.OK
		}
		if _, e := Symbols([]api.Run{run(1, "a"+string([]byte{byte(b)})+"b")}); e != want {
			test.Errorf("P6.2: Symbols with the byte %d has the error %d", b, e)
		}
	}
}

func TestP6_2Runs(test *testing.T) {
	for i, c := range []struct {
		l    []api.Sym
		want []api.Run
	}{
		{nil, nil},
		{[]api.Sym{}, nil},
		{text(1, "a"), []api.Run{{Lang: 1, Text: "a"}}},
		{text(0, "Ab 1."), []api.Run{{Lang: 0, Text: "Ab 1."}}},
		{slices.Concat(text(0, "ab"), text(1, "c"), text(0, " "), text(0, "d")), []api.Run{{Lang: 0, Text: "ab"}, {Lang: 1, Text: "c"}, {Lang: 0, Text: " d"}}},
		{text(0, strings.Repeat("a", mostSyms+1)), []api.Run{{Lang: 0, Text: strings.Repeat("a", mostSyms+1)}}},
		{append(text(0, "a"), api.Sym{Lang: 2, C: 'a'}), nil},
		{append(text(0, "a"), api.Sym{Lang: -1, C: 'a'}), nil},
		{append(text(0, "a"), api.Sym{Lang: 0, C: 31}), nil},
		{append([]api.Sym{{Lang: 0, C: 127}}, text(0, "a")...), nil},
		{append(text(0, "a"), api.Sym{Lang: 1, C: 0xE9}), nil},
	} {
		before := slices.Clone(c.l)
		if l := Runs(c.l); !slices.Equal(l, c.want) {
			test.Errorf("P6.2: Runs %d is %v", i, l)
		}
		if !slices.Equal(c.l, before) {
			test.Errorf("P6.2: Runs %d changes its argument", i)
		}
	}
}

func TestP6_7Runs(test *testing.T) {
	r := rand.New(rand.NewSource(67))
	for range 500 {
		most := 40
		if r.Intn(10) == 0 {
			most = mostSyms
		}
		l := anyText(r, most, allCharacters())
		runs := Runs(l)
		for i, run := range runs {
			if run.Text == "" || i > 0 && run.Lang == runs[i-1].Lang {
				test.Errorf("P6.2: the run %d of %v", i, runs)
			}
		}
		if back, e := Symbols(runs); e != api.OK || !slices.Equal(back, l) {
			test.Errorf("P6.7: Symbols(Runs(l)) is %v, %d for %v", back, e, l)
		}
	}
	whole := text(1, strings.Repeat("ab", mostSyms/2))
	if back, e := Symbols(Runs(whole)); e != api.OK || !slices.Equal(back, whole) {
		test.Errorf("P6.7: Symbols(Runs(l)) of 2048 characters has the error %d", e)
	}
	for range 500 {
		var runs []api.Run
		var want []api.Sym
		for range r.Intn(8) {
			lang, l := r.Intn(2), anyText(r, 5, allCharacters())
			s := ""
			for _, c := range l {
				s += string(rune(c.C))
			}
			runs = append(runs, api.Run{Lang: lang, Text: s})
			want = append(want, text(lang, s)...)
		}
		l, _ := Symbols(runs)
		back, e := Symbols(Runs(l))
		if e != api.OK || !slices.Equal(back, want) {
			test.Errorf("P6.7: Runs(Symbols(l)) has other characters than %v", runs)
		}
	}
}

func TestP1EqualCalls(test *testing.T) {
	t := sample()
	l := text(0, "An")
	if !reflect.DeepEqual(Steps(t, State{}, l, 0), Steps(copied(t), State{}, slices.Clone(l), 0)) || Valid(t) != Valid(copied(t)) {
		test.Error("P1: equal calls have different results")
	}
}

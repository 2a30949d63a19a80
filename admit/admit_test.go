package admit

import (
	"math/rand"
	"reflect"
	"slices"
	"strings"
	"testing"

	"dactyl/api"
	"dactyl/table"
)

// expectTwice checks that Admit returns these texts.
func expectTwice(test *testing.T, what string, t api.Tables, first, second string) {
	test.Helper()
	p, got, e := Admit(t)
	want := [2][]api.Sym{text(first), text(second)}
	if e != api.ErrTwice || !reflect.DeepEqual(got, want) || len(p.Pairs) > 0 {
		test.Errorf("P7.1: Admit with %s returns %v, %d and %d pairs, not %q and %q", what, got, e, len(p.Pairs), first, second)
	}
}

// expectAdmitted checks that Admit returns a proof that is right.
func expectAdmitted(test *testing.T, what string, t api.Tables) Proof {
	test.Helper()
	p, got, e := Admit(t)
	if e != api.OK || len(got[0])+len(got[1]) > 0 {
		test.Errorf("%s: Admit returns %v and %d, not a proof", what, got, e)
		return p
	}
	if !modelOf(t).right(p.Pairs) {
		test.Errorf("%s: the proof of Admit is not right", what)
	}
	if e := Check(t, p); e != api.OK {
		test.Errorf("%s: Check of the proof of Admit is %d", what, e)
	}
	return p
}

// expectEmpty checks that Admit returns an error and nothing else.
func expectEmpty(test *testing.T, what string, t api.Tables, want api.Errno) {
	test.Helper()
	p, got, e := Admit(t)
	if e != want || len(p.Pairs)+len(got[0])+len(got[1]) > 0 {
		test.Errorf("P7.1: Admit with %s returns %d pairs, %v and %d, not %d", what, len(p.Pairs), got, e, want)
	}
}

// cells are the cells of letters.
type cells map[byte][]byte

// chained returns tables in which the cells 1 to 25 are those of a to m, and of n to z, and nothing less is shared.
func chained() api.Tables {
	l := cells{'a': {1}, 'z': {25}}
	for i := byte(1); i <= 12; i++ {
		l['a'+i] = []byte{2 * i, 2*i + 1}
		l['n'+i-1] = []byte{2*i - 1, 2 * i}
	}
	return lettered(0, l)
}

// long returns tables in which the cells 1 to 47 are those of two lists of 24 pieces, each of which two rules write, and the texts of these lists.
func long() (api.Tables, string, string) {
	t := plain()
	rules := t.Lang[0].Rules
	var texts [2]string
	for i := range 48 {
		k, list := byte(i/2), i%2
		cells := []byte{2 * k, 2*k + 1}[max(0, 1-int(k)):]
		if list == 1 {
			cells = []byte{2*k + 1, 2*k + 2}[:min(2, 47-2*int(k))]
		}
		s := alphabet[i%26:][:1]
		if i < 26 {
			rules[i].Cells = cells
		} else {
			s += s
			rules = append(rules, rule(s, api.Any, cells...))
		}
		if len(rules) < 96 {
			rules = append(rules, rule(s, api.Inner, cells...))
		}
		texts[list] += s
	}
	t.Lang[0].Rules = rules
	return t, texts[0], texts[1]
}

func TestP7_1Long(test *testing.T) {
	t, one, other := long()
	if e := table.Valid(t); e != api.OK || len(t.Lang[0].Rules) != 96 || len(one) != 24+11 {
		test.Fatalf("the tables are %d, the texts are %q and %q", e, one, other)
	}
	expectTwice(test, "two long lists of pieces", t, one, other)
	t.Lang[0].Rules = t.Lang[0].Rules[:94]
	expectAdmitted(test, "P7.1: two long lists of pieces, of which one has lost its last one", t)
}

func TestP7_1Examples(test *testing.T) {
	expectAdmitted(test, "P7.1: the letters alone", plain())
	expectAdmitted(test, "P7.1: ab with the cells of a and b", plain(rule("ab", api.Any, 1, 2)))
	expectTwice(test, "ab with the cells of c and d", plain(rule("ab", api.Any, 3, 4)), "ab", "cd")
	expectTwice(test, "but with the cell of b", plain(rule("but", api.Word, 2)), "b", "but")
	expectTwice(test, "and with the cells 1 14", plain(rule("and", api.Any, 1, 14)), "an", "and")
}

func TestP7_1Twice(test *testing.T) {
	for _, c := range []struct {
		what          string
		t             api.Tables
		first, second string
	}{
		{"Inner", plain(rule("ing", api.Inner, 5)), "ae", "aing"},
		{"Start", plain(rule("th", api.Start, 20)), "ta", "tha"},
		{"Inner like Switch and a letter", plain(rule("o", api.Inner, 63, 1)), "ao", "a|a"},
		{"a mark like a letter", plain(rule(".", api.Any, 1)), ".", "a"},
		{"two marks", plain(rule("~", api.Any, 27), rule(" ", api.Any, 27)), " ", "~"},
		{"a capital in the order of characters", plain(rule("xy", api.Any, 60, 1)), "A", "xy"},
		{"Cap like a letter", func() api.Tables { t := plain(); t.Cap = []byte{1}; return t }(), "A", "aa"},
		{"Num like a letter", func() api.Tables { t := plain(); t.Num, t.Digits[1] = []byte{1}, 2; return t }(), "1", "ab"},
		{"two digits", func() api.Tables { t := plain(); t.Digits[3] = t.Digits[7]; return t }(), "3", "7"},
		{"End like a digit", func() api.Tables { t := plain(); t.End, t.Digits[3], t.Digits[4] = []byte{5}, 5, 1; return t }(), "434", "4a"},
		{"Switch like a letter", func() api.Tables { t := plain(); t.Switch = []byte{26}; return t }(), "za", "|a"},
		{"the other language", lettered(1, nil, rule("ab", api.Any, 3, 4)), "|ab", "|cd"},
		{"many texts", plain(rule("dd", api.Any, 27), rule("d", api.Word, 27), rule("a", api.Word, 27), rule("ab", api.Any, 27), rule("!", api.Any, 27)), "!", "a"},
		{"a beginning is first", plain(rule("dddd", api.Any, 27), rule("dddx", api.Any, 27), rule("ddd", api.Any, 27)), "ddd", "dddd"},
		{"fewer cells are first", plain(rule("x", api.Word, 30, 1, 1), rule("y", api.Word, 30, 1, 1), rule("z", api.Word, 31, 2), rule("zz", api.Word, 31, 2)), "z", "zz"},
		{"lesser cells are first, not lesser texts", plain(rule("a", api.Word, 31), rule("aa", api.Word, 31), rule("z", api.Word, 30), rule("zz", api.Word, 30)), "z", "zz"},
		{"cells that are less at the end", plain(rule("a", api.Word, 31, 31, 31, 32), rule("aa", api.Word, 31, 31, 31, 32), rule("z", api.Word, 31, 31, 31, 30), rule("zz", api.Word, 31, 31, 31, 30)), "z", "zz"},
		{"a chain of three", lettered(0, cells{'a': {1}, 'b': {2, 3}, 'c': {4, 5}, 'd': {1, 2}, 'e': {3, 4}, 'f': {5}}), "abc", "def"},
		{"a chain of all letters", chained(), "abcdefghijklm", "nopqrstuvwxyz"},
	} {
		expectTwice(test, c.what, c.t, c.first, c.second)
	}
}

func TestP7_1Admitted(test *testing.T) {
	expectAdmitted(test, "P7.1: Word with a cell of its own", plain(rule("but", api.Word, 27)))
	expectAdmitted(test, "P7.1: Word and Start with the same cell", plain(rule("but", api.Word, 27), rule("bu", api.Start, 27)))
	expectAdmitted(test, "P7.1: no mark shows where a word ends", plain(rule("ing", api.Inner, 27), rule("in", api.Word, 27)))
	expectAdmitted(test, "P7.1: digits like letters", func() api.Tables {
		t := plain()
		t.Digits = []byte{10, 1, 2, 3, 4, 5, 6, 7, 8, 9}
		return t
	}())
	expectAdmitted(test, "P7.1: the rest never comes to an end", lettered(0, cells{'a': {1}, 'b': {1, 2}, 'c': {2, 2}}, rule("aa", api.Any, 1, 1)))
	overlapping := cells{'a': {1, 2}, 'b': {51}, 'c': {2, 3}}
	expectAdmitted(test, "P7.1: the same text in two divisions, whose cells overlap", lettered(0, overlapping, rule("ab", api.Any, 1), rule("bc", api.Any, 3)))
	expectTwice(test, "other texts in divisions whose cells overlap", lettered(0, overlapping, rule("ab", api.Any, 1), rule("cb", api.Any, 3)), "abc", "acb")
	expectAdmitted(test, "P7.1: all contexts of a text, with the same cells", plain(rule("an", 0, 30), rule("an", 1, 30), rule("an", 2, 30), rule("an", 3, 30)))
}

// TestP7_1Random compares Admit with all texts that can be written with few cells.
func TestP7_1Random(test *testing.T) {
	r := rand.New(rand.NewSource(71))
	admitted, twice := 0, 0
	for range 150 {
		t := anyTables(r)
		before := copied(t)
		p, got, e := Admit(t)
		if !reflect.DeepEqual(t, before) {
			test.Fatalf("P7.1: Admit changes its argument")
		}
		if p2, got2, e2 := Admit(t); e2 != e || !reflect.DeepEqual(got2, got) || !reflect.DeepEqual(p2, p) {
			test.Fatalf("P7.1: two calls of Admit with %v have different results", t)
		}
		m := modelOf(t)
		if many := m.situations(4096) > 4096; many || e == api.ErrLimit {
			if !many || e != api.ErrLimit {
				test.Fatalf("P7.1: Admit with %v is %d; more than 4096 situations: %v", t, e, many)
			}
			continue
		}
		cells, want, found := firstShared(t, 5)
		switch {
		case found && (e != api.ErrTwice || !reflect.DeepEqual(got, want)):
			test.Fatalf("P7.1: Admit with %v returns %v and %d, not %v for %v", t, got, e, want, cells)
		case e == api.OK && !m.right(p.Pairs):
			test.Fatalf("P7.1: the proof of Admit for %v is not right", t)
		case e == api.OK:
			admitted++
		case e == api.ErrTwice:
			twice++
			if !Twins(t, got[0], got[1]) || order(got[0], got[1]) >= 0 {
				test.Fatalf("P7.5: the texts %v of Admit with %v", got, t)
			}
		default:
			test.Fatalf("P7.1: Admit with %v is %d", t, e)
		}
	}
	if admitted < 10 || twice < 10 {
		test.Errorf("%d tables are admitted, and %d are not: too few to compare", admitted, twice)
	}
}

// invalid returns tables that are not valid, and what table.Valid says of them.
func invalid() map[string]api.Tables {
	t := map[string]api.Tables{
		"ErrLimit": plain(slices.Repeat([]api.Rule{rule("ab", api.Any, 3, 4)}, 71)...),
		"ErrArg":   plain(rule("ab", api.Any, 3, 64)),
		"ErrTwice": plain(rule("ab", api.Any, 3, 4), rule("ab", api.Any, 5)),
		"ErrNone":  plain(rule("ab", api.Any, 3, 4)),
		"nothing":  {},
	}
	t["ErrNone"].Lang[1].Rules[25].Text = "zz"
	short := plain()
	short.Digits = short.Digits[:9]
	t["digits"] = short
	return t
}

func TestP7_1Invalid(test *testing.T) {
	for what, t := range invalid() {
		expectEmpty(test, "tables with "+what, t, table.Valid(t))
	}
	l := invalid()
	for what, want := range map[string]api.Errno{"ErrLimit": api.ErrLimit, "ErrArg": api.ErrArg, "ErrTwice": api.ErrTwice, "ErrNone": api.ErrNone, "nothing": api.ErrArg, "digits": api.ErrArg} {
		if e := table.Valid(l[what]); e != want {
			test.Errorf("tables with %s are %d, not %d", what, e, want)
		}
	}
}

// wide returns admitted tables with 4096 situations, in which the last rule of the language 0 has the cell 40.
//
// In both languages a to d are a 3 with up to three cells 1 after it, and e to
// p four of the cells 1 and 2 each, so that two lists of moves which begin
// with different ones of a to d go on side by side, and never end together.
func wide() api.Tables {
	t := plain()
	for lang := range 2 {
		rules := t.Lang[lang].Rules
		for i := range rules {
			switch bits := i - 4; {
			case i < 4:
				rules[i].Cells = []byte{3, 1, 1, 1}[:1+i]
			case i < 16:
				rules[i].Cells = []byte{byte(1 + bits>>3), byte(1 + bits>>2&1), byte(1 + bits>>1&1), byte(1 + bits&1)}
			default:
				rules[i].Cells = []byte{byte(10 + i)}
			}
		}
		for i := 4; i < 16; i++ {
			rules = append(rules, rule(alphabet[i:i+1], api.Word, rules[i].Cells...), rule(alphabet[i:i+1], api.Start, rules[i].Cells...))
		}
		t.Lang[lang].Rules = append(rules, rule(".", api.Any, 2, 2, 1, 2))
	}
	t.Cap, t.Switch = []byte{2, 2, 2, 2}, []byte{2, 2, 2, 1}
	more := &t.Lang[0].Rules
	for i := range 6 {
		*more = append(*more, rule(marks[i:i+1], api.Any, byte(51+i)))
	}
	for i := range 5 {
		*more = append(*more, rule(alphabet[20:22+i], api.Inner, byte(36+i)))
	}
	return t
}

func TestP7_1Limit(test *testing.T) {
	t := wide()
	last := len(t.Lang[0].Rules) - 1
	if n := modelOf(t).situations(5000); n != 4096 {
		test.Fatalf("there are %d situations, not 4096", n)
	}
	expectAdmitted(test, "P7.1: 4096 situations", t)
	t.Lang[0].Rules = append(t.Lang[0].Rules, rule("vw", api.Inner, 40))
	if n := modelOf(t).situations(5000); n != 4096 {
		test.Fatalf("there are %d situations, not 4096", n)
	}
	if _, _, e := Admit(t); e != api.ErrTwice {
		test.Errorf("P7.1: Admit of tables with 4096 situations that are not unique is %d", e)
	}
	t.Lang[0].Rules[last].Cells = []byte{3, 40}
	t.Lang[0].Rules[last+1].Cells = []byte{3, 40}
	if n := modelOf(t).situations(5000); n != 4097 {
		test.Fatalf("there are %d situations, not 4097", n)
	}
	expectEmpty(test, "4097 situations, and texts that share cells", t, api.ErrLimit)
	t.Lang[0].Rules = t.Lang[0].Rules[:last+1]
	if n := modelOf(t).situations(5000); n != 4097 {
		test.Fatalf("there are %d situations, not 4097", n)
	}
	expectEmpty(test, "4097 situations", t, api.ErrLimit)
}

func TestP7_5Pair(test *testing.T) {
	r := rand.New(rand.NewSource(75))
	for range 400 {
		t := anyTables(r)
		_, l, e := Admit(t)
		if e != api.ErrTwice {
			continue
		}
		if order(l[0], l[1]) >= 0 || !Twins(t, l[0], l[1]) {
			test.Fatalf("P7.5: Admit with %v returns %v", t, l)
		}
		shared := translations(t, l[0], 100)
		both := false
		for cells := range translations(t, l[1], 100) {
			both = both || shared[cells]
		}
		if !both {
			test.Fatalf("P7.5: the texts %v of Admit with %v share no cells", l, t)
		}
		l[0][0].C, l[1][0].C = 0, 0
		if _, again, _ := Admit(t); again[0][0].C == 0 || again[1][0].C == 0 {
			test.Fatalf("results of Admit share memory")
		}
	}
}

func TestP7_7Fewer(test *testing.T) {
	r := rand.New(rand.NewSource(77))
	count := 0
	for count < 40 {
		t := anyTables(r)
		if _, _, e := Admit(t); e != api.OK {
			continue
		}
		count++
		for i := range t.Lang {
			t.Lang[i].Rules = slices.DeleteFunc(t.Lang[i].Rules, func(x api.Rule) bool {
				own := x.Where == api.Any && len(x.Text) == 1 && strings.Contains(alphabet, x.Text)
				return !own && r.Intn(2) == 0
			})
		}
		expectAdmitted(test, "P7.7", t)
	}
	t := wide()
	t.Lang[0].Rules = t.Lang[0].Rules[:60]
	expectAdmitted(test, "P7.7", t)
}

// plainest returns tables as P7.8 says them, with so many rules in each language.
func plainest(r *rand.Rand, rules int) api.Tables {
	t := plain()
	order := r.Perm(63)
	indicators := []*[]byte{&t.Cap, &t.Num, &t.End, &t.Switch}
	for i, l := range indicators {
		*l = []byte{byte(1 + order[i])}
	}
	taken := map[byte]bool{}
	for lang := range t.Lang {
		l := &t.Lang[lang].Rules
		for i := 26; i < rules; i++ {
			if r.Intn(3) == 0 && i < 26+len(marks) {
				*l = append(*l, rule(marks[i-26:i-25], api.Any))
				continue
			}
			*l = append(*l, rule(alphabet[i%26:][:1]+alphabet[r.Intn(26):][:1]+alphabet[i/26:][:1], r.Intn(4)))
		}
		for i, k := range r.Perm(63 - len(indicators))[:len(*l)] {
			cell := byte(1 + order[len(indicators)+k])
			(*l)[i].Cells = []byte{cell}
			taken[cell] = taken[cell] || strings.Contains(marks, (*l)[i].Text)
		}
	}
	var free []byte
	for _, k := range order[len(indicators):] {
		if !taken[byte(1+k)] {
			free = append(free, byte(1+k))
		}
	}
	if len(free) < 10 {
		return plainest(r, rules)
	}
	t.Digits = free[:10]
	return t
}

func TestP7_8Plain(test *testing.T) {
	r := rand.New(rand.NewSource(78))
	for i := range 30 {
		t := plainest(r, []int{26, 30, 45, 59}[i%4])
		if e := table.Valid(t); e != api.OK {
			test.Fatalf("the tables are not valid: %d", e)
		}
		expectAdmitted(test, "P7.8", t)
	}
}

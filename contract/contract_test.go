package contract

import (
	"math"
	"math/rand"
	"slices"
	"strings"
	"testing"

	"dactyl/api"
	"dactyl/table"
)

// zeros are the least numbers at the end of a text.
func zeros() []int { return make([]int, 8) }

func TestP8_1Examples(test *testing.T) {
	c := translated(test, example(), write("hand"))
	want := Cert{[]byte{8, 28}, []int{0, 2}, [][]int{
		{2, 2, 3, 3, 3, 3, 3, 3},
		{1, 1, 2, 2, 2, 2, 2, 2},
		{2, 2, 3, 3, 3, 3, 3, 3},
		{1, 1, 2, 2, 2, 2, 2, 2},
		zeros(),
	}}
	if !same(c, want) {
		test.Errorf("P8.1: Translate of hand is %v", c)
	}
	for _, l := range [][]api.Sym{nil, {}} {
		if c := translated(test, example(), l); !same(c, Cert{Least: [][]int{zeros()}}) {
			test.Errorf("P8.1: Translate of no characters is %v", c)
		}
	}
	t := example()
	t.Switch, t.Num = []byte{63, 1, 2}, []byte{61, 1}
	c = translated(test, t, write("|1"))
	want = Cert{[]byte{63, 1, 2, 61, 1, 42}, []int{0, 0}, [][]int{{6, 6, 6, 6, 3, 3, 1, 1}, zeros()}}
	if !same(c, want) {
		test.Errorf("P8.1: Translate of a digit in the language 1 is %v", c)
	}
}

func TestP8_1Cells(test *testing.T) {
	t := plain(rule("but", api.Word, 30), rule("bu", api.Start, 31), rule("ing", api.Inner, 32), rule(".", api.Any, 33), blank(34),
		rule("abcdefgh", api.Any, 35), rule("ijklmnop", api.Inner, 36), rule("qrstuvwx", api.Word, 37), rule("qrstuvwx", api.Start, 38))
	t.Lang[1].Rules = append(t.Lang[1].Rules, rule("ab", api.Any, 39))
	for _, c := range []struct {
		text  string
		cells []byte
	}{
		{"but", []byte{30}},
		{"But", []byte{60, 30}},
		{"buts", []byte{31, 20, 19}},
		{"abut", []byte{1, 2, 21, 20}},
		{"ingot", []byte{9, 14, 7, 15, 20}},
		{"outing", []byte{15, 21, 20, 32}},
		{"a1b", []byte{1, 61, 42, 62, 2}},
		{"12.3but", []byte{61, 42, 43, 33, 61, 44, 62, 30}},
		{"1But", []byte{61, 42, 62, 60, 30}},
		{"ab|ab|ab", []byte{1, 2, 63, 39, 63, 1, 2}},
		{"1|2|3", []byte{61, 42, 63, 61, 43, 63, 61, 44}},
		{"bu|t", []byte{2, 21, 63, 20}},
		{"abcdefgh", []byte{35}},
		{"xabcdefghijklmnopx", []byte{24, 35, 36, 24}},
		{"ijklmnop", []byte{9, 10, 11, 12, 13, 14, 15, 16}},
		{"qrstuvwx", []byte{37}},
		{"qrstuvwxy", []byte{38, 25}},
		{"qrstuvwxY", []byte{38, 60, 25}},
		{"qrstuvwx.", []byte{37, 33}},
		{"qrstuvwx|y", []byte{37, 63, 25}},
		{"aqrstuvwx", []byte{1, 17, 18, 19, 20, 21, 22, 23, 24}},
	} {
		if got := translated(test, t, write(c.text)); !slices.Equal(got.Cells, c.cells) {
			test.Errorf("P8.1: the cells of %s are %v, not %v", c.text, got.Cells, c.cells)
		}
	}
}

// TestP8_1First checks that of several paths with the fewest cells the one with the first Taken is returned.
func TestP8_1First(test *testing.T) {
	before := plain()
	before.Lang[0].Rules = slices.Insert(before.Lang[0].Rules, 0, rule("ab", api.Any, 3, 4))
	for i, c := range []struct {
		t     api.Tables
		text  string
		taken []int
		cells []byte
	}{
		{plain(rule("ab", api.Any, 3, 4)), "ab", []int{0, 0}, []byte{1, 2}},
		{before, "ab", []int{0}, []byte{3, 4}},
		{before, "abab", []int{0, 0}, []byte{3, 4, 3, 4}},
		{plain(rule("ab", api.Any, 27), rule("bc", api.Any, 28)), "abc", []int{0, 1}, []byte{1, 28}},
		{plain(rule("bc", api.Any, 28), rule("ab", api.Any, 27)), "abc", []int{0, 1}, []byte{1, 28}},
		{plain(rule("ab", api.Start, 27), rule("ab", api.Any, 28), rule("c", api.Inner, 29)), "abc", []int{1, 0}, []byte{27, 3}},
		{plain(rule("ab", api.Any, 28), rule("ab", api.Start, 27)), "abc", []int{1, 0}, []byte{28, 3}},
		{plain(rule("abc", api.Any, 27, 28), rule("ab", api.Any, 29)), "abc", []int{1}, []byte{27, 28}},
		{plain(rule("abc", api.Any, 27, 28, 29), rule("ab", api.Any, 29)), "abc", []int{2, 0}, []byte{29, 3}},
		{plain(rule("a", api.Start, 27), rule("a", api.Word, 28)), "a", []int{0}, []byte{1}},
	} {
		got := translated(test, c.t, write(c.text))
		if !slices.Equal(got.Taken, c.taken) || !slices.Equal(got.Cells, c.cells) {
			test.Errorf("P8.1: the example %d is %v with %v, not %v with %v", i, got.Taken, got.Cells, c.taken, c.cells)
		}
	}
}

func TestP8_1None(test *testing.T) {
	t := plain(rule(".", api.Any, 33))
	for _, s := range []string{"?", "a?", "?a", "a.?.a", "|.", "a|.|a", "1~", " "} {
		if c, e := Translate(t, write(s)); e != api.ErrNone || !empty(c) {
			test.Errorf("P8.1: Translate of %q is %v and %d, not ErrNone", s, c, e)
		}
		if c, e := Plain(t, write(s)); e != api.ErrNone || len(c) > 0 {
			test.Errorf("P8.3: Plain of %q is %v and %d, not ErrNone", s, c, e)
		}
	}
}

// TestP8_1Model compares with all paths.
func TestP8_1Model(test *testing.T) {
	r := rand.New(rand.NewSource(81))
	none, ties := 0, 0
	for range 250 {
		t := anyTables(r, api.MaxRules)
		for range 8 {
			l := anyText(r, 8, "aaaaaabbbABz12 .~")
			want, wantE := modelTranslate(t, l)
			got, e := Translate(t, l)
			if e != wantE || !same(got, want) {
				test.Fatalf("P8.1: Translate of %v with %v is %v and %d, not %v and %d", l, t, got, e, want, wantE)
			}
			if e == api.ErrNone {
				none++
				continue
			}
			all := paths(t, l)
			least := slices.DeleteFunc(slices.Clone(all), func(p trail) bool { return len(p.cells) > len(got.Cells) })
			if len(least) > 1 {
				ties++
			}
			if e := Check(t, l, got); e != api.OK {
				test.Fatalf("P8.2: Check of what Translate returns for %v with %v is %d", l, t, e)
			}
		}
	}
	if none < 20 || ties < 20 {
		test.Errorf("%d texts have no path, and %d have several with the fewest cells: too few to compare", none, ties)
	}
}

// TestP8_1Long compares the least numbers of texts with long words.
func TestP8_1Long(test *testing.T) {
	r := rand.New(rand.NewSource(82))
	for range 60 {
		t := anyTables(r, api.MaxRules)
		l := anyText(r, 60, []string{"aaabbb", "aaaaaaaaaaaaaab", "aaaabbbbA 1"}[r.Intn(3)])
		got, e := Translate(t, l)
		want := modelLeast(t, l)
		if none := want[0][0] < 0; none != (e == api.ErrNone) || none && !empty(got) {
			test.Fatalf("P8.1: Translate of %v with %v is %d; there is none: %v", l, t, e, none)
		}
		if e != api.OK {
			continue
		}
		if !slices.EqualFunc(got.Least, want, slices.Equal) || len(got.Cells) != want[0][0] {
			test.Fatalf("P8.1: the least numbers of %v with %v are %v, not %v", l, t, got.Least, want)
		}
		if e := Check(t, l, got); e != api.OK {
			test.Fatalf("P8.2: Check of what Translate returns for %v with %v is %d", l, t, e)
		}
	}
}

func TestP8_1Limit(test *testing.T) {
	t := plain(rule("aaaaaaaa", api.Inner, 30), rule("aaaaaaa", api.Start, 31), rule("aaaaaaaa", api.Start, 32))
	for _, c := range []struct {
		text  string
		cells int
	}{
		{strings.Repeat("a", api.MaxSyms), 256},
		{strings.Repeat("a", api.MaxSyms-1), 256},
		{strings.Repeat("ab", api.MaxSyms/2), api.MaxSyms},
		{strings.Repeat("a|", api.MaxSyms), 2*api.MaxSyms - 1},
		{strings.Repeat("aB1", api.MaxSyms/3), 5*(api.MaxSyms/3) + (api.MaxSyms/3 - 1)},
	} {
		l := write(c.text)
		got := translated(test, t, l)
		if len(got.Cells) != c.cells || len(got.Least) != len(l)+1 {
			test.Errorf("P8.1: a text of %d characters has %d cells, not %d", len(l), len(got.Cells), c.cells)
		}
		if e := Check(t, l, got); e != api.OK {
			test.Errorf("P8.2: Check of a text of %d characters is %d", len(l), e)
		}
		if spans, e := Spans(t, l, got); e != api.OK || len(spans) != c.cells {
			test.Errorf("P8.5: Spans of a text of %d characters is %d", len(l), e)
		}
		if cells, e := Plain(t, l); e != api.OK || len(cells) < c.cells {
			test.Errorf("P8.3: Plain of a text of %d characters is %d", len(l), e)
		}
	}
}

// right reports whether a translation is one that Check has to accept, by all paths.
func right(c Cert, all []trail, least [][]int) bool {
	return slices.EqualFunc(c.Least, least, slices.Equal) && slices.ContainsFunc(all, func(p trail) bool {
		return slices.Equal(p.taken, c.Taken) && slices.Equal(p.cells, c.Cells) && len(p.cells) == least[0][0]
	})
}

// changed returns a translation with one change.
func changed(r *rand.Rand, c Cert) Cert {
	c = clone(c)
	switch r.Intn(10) {
	case 0:
		c.Cells = edited(r, c.Cells, byte(r.Intn(256)))
	case 1, 2:
		c.Taken = edited(r, c.Taken, r.Intn(5)-1)
	case 3:
		c.Taken = edited(r, c.Taken, []int{math.MinInt, -2, 96, math.MaxInt}[r.Intn(4)])
	case 4:
		c.Least = edited(r, c.Least, make([]int, r.Intn(10)))
	case 5:
		if i := r.Intn(len(c.Least) + 1); i < len(c.Least) {
			c.Least[i] = edited(r, c.Least[i], r.Intn(8)-1)
		}
	case 6:
		c.Least = nil
	default:
		if i := r.Intn(len(c.Least) + 1); i < len(c.Least) && len(c.Least[i]) > 0 {
			c.Least[i][r.Intn(len(c.Least[i]))] += []int{-1, 1, math.MinInt, math.MaxInt}[r.Intn(4)]
		}
	}
	return c
}

// edited returns a list with an element replaced, added or left out.
func edited[T any](r *rand.Rand, l []T, v T) []T {
	i := r.Intn(len(l) + 1)
	if i == len(l) || r.Intn(3) == 0 {
		return slices.Insert(slices.Clone(l), i, v)
	}
	if r.Intn(2) == 0 {
		return slices.Delete(slices.Clone(l), i, i+1)
	}
	l = slices.Clone(l)
	l[i] = v
	return l
}

func TestP8_2Model(test *testing.T) {
	r := rand.New(rand.NewSource(83))
	accepted, refused := 0, 0
	for range 150 {
		t, l := anyTables(r, 80), anyText(r, 7, "aaaabbbAz1 .")
		all, least := paths(t, l), modelLeast(t, l)
		c, e := Translate(t, l)
		if e != api.OK {
			c.Least = least
		}
		for _, p := range all {
			if got, want := Check(t, l, Cert{p.cells, p.taken, least}), len(p.cells) == least[0][0]; (got == api.OK) != want {
				test.Fatalf("P8.2: Check of the path %v of %v with %v is %d", p, l, t, got)
			} else if want {
				accepted++
			}
		}
		for range 40 {
			x := changed(r, c)
			if r.Intn(4) == 0 {
				x = changed(r, x)
			}
			want := api.ErrProof
			if right(x, all, least) {
				want = api.OK
			} else {
				refused++
			}
			if got := Check(t, l, x); got != want {
				test.Fatalf("P8.2: Check of %v for %v with %v is %d, not %d", x, l, t, got, want)
			}
		}
	}
	if accepted < 100 || refused < 1000 {
		test.Errorf("%d translations are accepted, and %d refused: too few", accepted, refused)
	}
}

func TestP8_2Refused(test *testing.T) {
	t, l := example(), write("hand")
	c := translated(test, t, l)
	refuse := func(what string, change func(c *Cert)) {
		test.Helper()
		x := clone(c)
		change(&x)
		if e := Check(t, l, x); e != api.ErrProof {
			test.Errorf("P8.2: Check of a translation with %s is %d, not ErrProof", what, e)
		}
	}
	refuse("nothing", func(c *Cert) { *c = Cert{} })
	refuse("more cells than the fewest", func(c *Cert) { c.Cells, c.Taken = []byte{8, 27, 4}, []int{0, 1, 0} })
	refuse("plain cells", func(c *Cert) { c.Cells, c.Taken = []byte{8, 1, 14, 4}, []int{0, 0, 0, 0} })
	refuse("other cells", func(c *Cert) { c.Cells[1] = 27 })
	refuse("a cell more", func(c *Cert) { c.Cells = append(c.Cells, 28) })
	refuse("a cell less", func(c *Cert) { c.Cells = c.Cells[:1] })
	refuse("a step more", func(c *Cert) { c.Taken = append(c.Taken, 0) })
	refuse("a step less", func(c *Cert) { c.Taken = c.Taken[:1] })
	refuse("no step", func(c *Cert) { c.Taken = nil })
	refuse("a step that is none", func(c *Cert) { c.Taken[1] = 3 })
	refuse("a negative step", func(c *Cert) { c.Taken[0] = -1 })
	refuse("a place less", func(c *Cert) { c.Least = c.Least[:4] })
	refuse("a place more", func(c *Cert) { c.Least = append(c.Least, zeros()) })
	refuse("no places", func(c *Cert) { c.Least = nil })
	for at := range c.Least {
		refuse("a state less", func(c *Cert) { c.Least[at] = c.Least[at][:7] })
		refuse("a state more", func(c *Cert) { c.Least[at] = append(c.Least[at], c.Least[at][7]) })
		refuse("no states", func(c *Cert) { c.Least[at] = nil })
		for i := range 8 {
			for _, d := range []int{-1, 1, math.MaxInt, math.MinInt} {
				refuse("another least number", func(c *Cert) { c.Least[at][i] += d })
			}
			refuse("a least number that is none", func(c *Cert) { c.Least[at][i] = -1 })
		}
	}
	// All numbers one less would follow from one another, but for those at the end.
	refuse("lesser numbers", func(c *Cert) {
		c.Cells, c.Taken = c.Cells[:1], c.Taken[:1]
		for _, n := range c.Least {
			for i := range n {
				n[i]--
			}
		}
	})
	if e := Check(t, nil, Cert{Least: [][]int{zeros()}}); e != api.OK {
		test.Errorf("P8.2: Check of no characters is %d", e)
	}
	for _, c := range []Cert{{}, {Least: [][]int{zeros(), zeros()}}, {Cells: []byte{1}, Least: [][]int{zeros()}}, {Taken: []int{0}, Least: [][]int{zeros()}}} {
		if e := Check(t, nil, c); e != api.ErrProof {
			test.Errorf("P8.2: Check of %v for no characters is %d, not ErrProof", c, e)
		}
	}
	for _, c := range []Cert{c, {}, {Least: [][]int{{-1, -1, -1, -1, -1, -1, -1, -1}, zeros()}}} {
		if e := Check(t, write("?"), c); e != api.ErrProof {
			test.Errorf("P8.2: Check for a text without a path is %d, not ErrProof", e)
		}
	}
}

func TestP8_3Plain(test *testing.T) {
	t := plain(rule("an", api.Any, 27), rule("and", api.Any, 28), rule("a", api.Word, 29), rule("h", api.Start, 30), rule("n", api.Inner, 31), rule("-", api.Any, 32, 33))
	for _, c := range []struct {
		text  string
		cells []byte
	}{
		{"", nil},
		{"hand", []byte{8, 1, 14, 4}},
		{"a", []byte{1}},
		{"A-7", []byte{60, 1, 32, 33, 61, 48}},
		{"78a", []byte{61, 48, 49, 62, 1}},
		{"an|an", []byte{1, 14, 63, 1, 14}},
	} {
		if got, e := Plain(t, write(c.text)); e != api.OK || !slices.Equal(got, c.cells) {
			test.Errorf("P8.3: Plain of %s is %v and %d, not %v", c.text, got, e, c.cells)
		}
	}
	// The rules of the letters can stand anywhere among the others.
	slices.Reverse(t.Lang[0].Rules)
	if got, e := Plain(t, write("hand")); e != api.OK || !slices.Equal(got, []byte{8, 1, 14, 4}) {
		test.Errorf("P8.3: Plain of hand is %v and %d", got, e)
	}
}

// plainModel reports whether the steps of a path with a rule have the Len 1 and Where Any.
func plainModel(t api.Tables, l []api.Sym, taken []int) bool {
	at, s := 0, table.State{}
	for _, i := range taken {
		x := table.Steps(t, s, l, at)[i]
		if x.Rule >= 0 && (x.Len != 1 || t.Lang[s.Lang].Rules[x.Rule].Where != api.Any) {
			return false
		}
		at, s = at+x.Len, x.To
	}
	return true
}

func TestP8_3Model(test *testing.T) {
	r := rand.New(rand.NewSource(84))
	for range 200 {
		t, l := anyTables(r, api.MaxRules), anyText(r, 7, "aaaabbbAz12 .~")
		all := slices.DeleteFunc(paths(t, l), func(p trail) bool { return !plainModel(t, l, p.taken) })
		got, e := Plain(t, l)
		switch {
		case len(all) > 1:
			test.Fatalf("P8.3: %d paths of %v with %v are plain", len(all), l, t)
		case len(all) == 0 && (e != api.ErrNone || len(got) > 0):
			test.Fatalf("P8.3: Plain of %v with %v is %v and %d, not ErrNone", l, t, got, e)
		case len(all) == 1 && (e != api.OK || !slices.Equal(got, all[0].cells)):
			test.Fatalf("P8.3: Plain of %v with %v is %v and %d, not %v", l, t, got, e, all[0].cells)
		}
	}
}

func TestP8_5Spans(test *testing.T) {
	t := plain(rule("an", api.Any, 27), rule("and", api.Any, 28, 29))
	t.Switch, t.Num = []byte{63, 1}, []byte{61, 1, 2}
	for _, c := range []struct {
		text  string
		cells []byte
		taken []int
		spans []int
	}{
		{"", nil, nil, nil},
		{"hand", []byte{8, 28, 29}, []int{0, 2}, []int{0, 1, 1}},
		{"hand", []byte{8, 27, 4}, []int{0, 1, 0}, []int{0, 1, 3}},
		{"hand", []byte{8, 1, 14, 4}, []int{0, 0, 0, 0}, []int{0, 1, 2, 3}},
		{"x|1A", []byte{24, 63, 1, 61, 1, 2, 42, 62, 60, 1}, []int{0, 0, 0, 0}, []int{0, 1, 1, 1, 1, 1, 1, 2, 2, 2}},
	} {
		for _, least := range [][][]int{nil, {{7}}} {
			got, e := Spans(t, write(c.text), Cert{c.cells, c.taken, least})
			if e != api.OK || !slices.Equal(got, c.spans) {
				test.Errorf("P8.5: Spans of %s with %v is %v and %d, not %v", c.text, c.cells, got, e, c.spans)
			}
		}
	}
	for i, c := range []Cert{
		{},
		{[]byte{8, 28, 29}, []int{0, 1}, nil},
		{[]byte{8, 28}, []int{0, 2}, nil},
		{[]byte{8, 28, 29, 1}, []int{0, 2}, nil},
		{[]byte{8, 28, 30}, []int{0, 2}, nil},
		{[]byte{8, 28, 29}, []int{0, 2, 0}, nil},
		{[]byte{8, 28, 29}, []int{0, 3}, nil},
		{[]byte{8, 28, 29}, []int{0, -1}, nil},
		{[]byte{8}, []int{0}, nil},
		{nil, []int{0, 2}, nil},
		{[]byte{8, 28, 29}, nil, nil},
	} {
		if got, e := Spans(t, write("hand"), c); e != api.ErrProof || len(got) > 0 {
			test.Errorf("P8.5: Spans with the path %d that is none is %v and %d, not ErrProof", i, got, e)
		}
	}
	for _, s := range []string{"", "?"} {
		if got, e := Spans(t, write(s), Cert{Cells: []byte{1}, Taken: []int{0}}); e != api.ErrProof || len(got) > 0 {
			test.Errorf("P8.5: Spans of %q is %v and %d, not ErrProof", s, got, e)
		}
	}
}

func TestP8_5Model(test *testing.T) {
	r := rand.New(rand.NewSource(85))
	for range 150 {
		t, l := anyTables(r, 80), anyText(r, 7, "aaaabbbAz1 .")
		all := paths(t, l)
		for _, p := range all {
			if got, e := Spans(t, l, Cert{Cells: p.cells, Taken: p.taken}); e != api.OK || !slices.Equal(got, p.places) {
				test.Fatalf("P8.5: Spans of the path %v of %v with %v is %v and %d", p, l, t, got, e)
			}
			x := changed(r, Cert{Cells: p.cells, Taken: p.taken})
			got, e := Spans(t, l, x)
			i := slices.IndexFunc(all, func(p trail) bool { return slices.Equal(p.cells, x.Cells) && slices.Equal(p.taken, x.Taken) })
			if i < 0 && (e != api.ErrProof || len(got) > 0) || i >= 0 && (e != api.OK || !slices.Equal(got, all[i].places)) {
				test.Fatalf("P8.5: Spans of %v for %v with %v is %v and %d", x, l, t, got, e)
			}
		}
	}
}

func TestP8_6Fewest(test *testing.T) {
	r := rand.New(rand.NewSource(86))
	for range 150 {
		t, l := anyTables(r, 80), anyText(r, 7, "aaaabbbAz1 .")
		c, e := Translate(t, l)
		cells, plainE := Plain(t, l)
		all := paths(t, l)
		if e != plainE || (e == api.OK) != (len(all) > 0) {
			test.Fatalf("P8.6: Translate of %v with %v is %d, Plain %d, and there are %d paths", l, t, e, plainE, len(all))
		}
		for _, p := range all {
			if len(p.cells) < len(c.Cells) {
				test.Fatalf("P8.6: %v has fewer cells than %v", p, c)
			}
		}
		if len(cells) < len(c.Cells) {
			test.Fatalf("P8.6: Plain of %v with %v has fewer cells than Translate", l, t)
		}
	}
}

func TestP8_7Equations(test *testing.T) {
	r := rand.New(rand.NewSource(87))
	for range 80 {
		t, l := anyTables(r, api.MaxRules), anyText(r, 40, "aaaabbbAz12 .")
		c, e := Translate(t, l)
		if e != api.OK {
			continue
		}
		for at, n := range c.Least {
			for i, got := range n {
				s := table.State{Lang: i / 4, Num: i/2%2 == 1, In: i%2 == 1}
				want := -1
				if at == len(l) {
					want = 0
				}
				for _, x := range table.Steps(t, s, l, at) {
					to := 4 * x.To.Lang
					if x.To.Num {
						to += 2
					}
					if x.To.In {
						to++
					}
					if rest := c.Least[at+x.Len][to]; rest >= 0 && (want < 0 || len(x.Cells)+rest < want) {
						want = len(x.Cells) + rest
					}
				}
				if got != want {
					test.Fatalf("P8.7: the least number of the place %d and the state %d of %v with %v is %d, not %d", at, i, l, t, got, want)
				}
			}
		}
	}
}

// TestP8_7None checks the least numbers of texts without a path, which no result shows.
func TestP8_7None(test *testing.T) {
	r := rand.New(rand.NewSource(90))
	found := 0
	for range 80 {
		t, l := anyTables(r, 40), anyText(r, 12, "aaabbAz12 .")
		want := modelLeast(t, l)
		if got := lists(text{t, l}.least()); !slices.EqualFunc(got, want, slices.Equal) {
			test.Fatalf("P8.7: the least numbers of %v with %v are %v, not %v", l, t, got, want)
		}
		if want[0][0] < 0 {
			found++
		}
	}
	if found < 20 {
		test.Errorf("%d texts have no path: too few to compare", found)
	}
	for _, l := range [][]int{{-1, 3}, {3, -1}, {4, -1, 3, -1}, {3}} {
		if n := lowest(l); n != 3 {
			test.Errorf("P8.7: the least sum of %v is %d", l, n)
		}
	}
	for _, l := range [][]int{nil, {-1}, {-1, -1}} {
		if n := lowest(l); n != -1 {
			test.Errorf("P8.7: the least sum of %v is %d", l, n)
		}
	}
}

func TestP8_8Together(test *testing.T) {
	r := rand.New(rand.NewSource(88))
	tried, reached := 0, 0
	for range 400 {
		t := anyTables(r, 80)
		for i := range t.Lang {
			if !slices.ContainsFunc(t.Lang[i].Rules, func(x api.Rule) bool { return x.Text == " " }) {
				t.Lang[i].Rules = append(t.Lang[i].Rules, blank(anyCells(r)...))
			}
		}
		a, b := anyText(r, 8, "aaabbbAz12 "), anyText(r, 8, "aaabbbAz12 ")
		middle := api.Sym{Lang: r.Intn(2), C: ' '}
		one, other := translated(test, t, a), translated(test, t, b)
		both := translated(test, t, slices.Concat(a, []api.Sym{middle}, b))
		i := slices.IndexFunc(t.Lang[middle.Lang].Rules, func(x api.Rule) bool { return x.Text == " " })
		most := len(one.Cells) + len(other.Cells) + len(t.Lang[middle.Lang].Rules[i].Cells) + len(t.End) + 2*len(t.Switch)
		tried++
		if len(both.Cells) > most {
			test.Fatalf("P8.8: %v and %v with %v need %d cells, more than %d", a, b, t, len(both.Cells), most)
		}
		if len(both.Cells) == most-len(t.End) {
			reached++
		}
	}
	if reached == 0 {
		test.Errorf("P8.8: none of %d texts needs two times Switch", tried)
	}
}

func TestP8_9Spans(test *testing.T) {
	r := rand.New(rand.NewSource(89))
	for range 200 {
		t, l := anyTables(r, 80), anyText(r, 30, "aaaabbbAz12 .")
		c, e := Translate(t, l)
		if e != api.OK {
			continue
		}
		spans, e := Spans(t, l, c)
		if e != api.OK || len(spans) != len(c.Cells) || !slices.IsSorted(spans) {
			test.Fatalf("P8.9: Spans of %v with %v is %v and %d", l, t, spans, e)
		}
		at, s := 0, table.State{}
		for _, i := range c.Taken {
			x := table.Steps(t, s, l, at)[i]
			if !slices.Contains(spans, at) {
				test.Fatalf("P8.9: the place %d of %v with %v has no cells: %v", at, l, t, spans)
			}
			at, s = at+x.Len, x.To
		}
	}
}

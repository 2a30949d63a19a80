package back

import (
	"math"
	"math/rand"
	"reflect"
	"slices"
	"strings"
	"testing"

	"dactyl/admit"
	"dactyl/api"
	"dactyl/contract"
	"dactyl/table"
)

// wrong returns tables that are not valid.
func wrong() api.Tables {
	t := sample()
	t.Cap = nil
	return t
}

// different returns tables that are admitted: all cells of rules, digits and indicators are different.
func different() api.Tables {
	t := plain()
	for i := range t.Lang {
		t.Lang[i].Rules = append(t.Lang[i].Rules, rule(" ", api.Any, 51), rule(".", api.Any, 52), rule("an", api.Any, 30), rule("the", api.Word, 31), rule("be", api.Start, 32), rule("ing", api.Inner, 33))
	}
	return t
}

func TestP9_1Examples(test *testing.T) {
	t := sample()
	for _, c := range []struct {
		cells []byte
		want  [][]api.Sym
	}{
		{nil, writes("")},
		{[]byte{}, writes("")},
		{[]byte{60, 30}, writes("An")},
		{[]byte{31}, writes("an")},
		{[]byte{31, 20}, nil},
		{[]byte{31, 33}, writes("an.")},
		{[]byte{2, 1, 32}, writes("ban")},
		{[]byte{61, 48, 62, 1}, writes("7a")},
		{[]byte{61, 48, 1}, nil},
		{[]byte{63, 1}, writes("|a")},
		{[]byte{61, 48, 62, 60, 1}, writes("7A")},
		{[]byte{61, 48, 60, 1}, nil},
		{[]byte{61, 48, 33}, writes("7.")},
		{[]byte{61, 48, 33, 61, 49}, writes("7.8")},
		{[]byte{61, 48, 33, 49}, nil},
		{[]byte{61, 48, 61, 49}, nil},
		{[]byte{61, 48, 49}, writes("78")},
		{[]byte{61, 48, 63, 61, 49}, writes("7|8")},
		{[]byte{61, 48, 63, 49}, nil},
		{[]byte{48}, nil},
		{[]byte{31, 63, 20}, writes("an|t")},
		{[]byte{31, 61, 48}, writes("an7")},
		{[]byte{31, 31}, nil},
		{[]byte{1, 31}, nil},
		{[]byte{31, 60, 1}, nil},
		{[]byte{31, 33, 31}, writes("an.an")},
		{[]byte{61, 48, 62, 31}, writes("7an")},
		{[]byte{60, 31}, writes("An")},
		{[]byte{32}, nil},
		{[]byte{60, 32}, nil},
		{[]byte{1, 60, 32}, writes("aN")},
		{[]byte{33, 32}, nil},
		{[]byte{1, 63, 63, 32}, nil},
		{[]byte{1, 63, 1, 63, 32}, nil},
		{[]byte{63, 30}, nil},
		{[]byte{63}, nil},
		{[]byte{1, 63}, nil},
		{[]byte{63, 63, 1}, nil},
		{[]byte{60}, nil},
		{[]byte{60, 33}, nil},
		{[]byte{61}, nil},
		{[]byte{61, 48, 62}, nil},
		{[]byte{61, 48, 62, 33}, nil},
		{[]byte{62, 1}, nil},
		{[]byte{0}, nil},
		{[]byte{1, 0}, nil},
		{[]byte{64 + 1}, nil},
		{[]byte{1, 255}, nil},
	} {
		kept := slices.Clone(c.cells)
		got, e := All(t, c.cells, 64)
		if e != api.OK || !equal(got, c.want) {
			test.Errorf("P9.1: All of %v is %v, %d", c.cells, got, e)
		}
		l, e := Read(t, c.cells)
		if len(c.want) == 1 && (e != api.OK || !slices.Equal(l, c.want[0])) || len(c.want) == 0 && (e != api.ErrForm || len(l) > 0) {
			test.Errorf("P9.2: Read of %v is %v, %d", c.cells, l, e)
		}
		for _, l := range c.want {
			if !Is(t, l, c.cells) {
				test.Errorf("P9.4: by Is %v does not have %v", l, c.cells)
			}
		}
		if !slices.Equal(c.cells, kept) {
			test.Errorf("P9.1: the cells %v are changed", kept)
		}
	}
	if !reflect.DeepEqual(t, sample()) {
		test.Error("P9.1: the tables are changed")
	}
}

func TestP9_1Contexts(test *testing.T) {
	t := plain(rule("but", api.Word, 30), rule("bu", api.Start, 31), rule("ing", api.Inner, 32), rule(".", api.Any, 33), rule("ab", api.Any, 34))
	t.Lang[1].Rules = append(t.Lang[1].Rules, rule("bu", api.Start, 35), rule(" ", api.Any, 36))
	t.Cap, t.Num, t.End, t.Switch = []byte{60, 59}, []byte{61, 58}, []byte{62, 57}, []byte{63, 56, 55, 54}
	for _, c := range []struct {
		cells []byte
		want  [][]api.Sym
	}{
		{[]byte{30}, writes("but")},
		{[]byte{60, 59, 30, 33}, writes("But.")},
		{[]byte{31}, nil},
		{[]byte{31, 33}, nil},
		{[]byte{31, 61, 58, 41}, nil},
		{[]byte{31, 63, 56, 55, 54, 1}, nil},
		{[]byte{31, 1}, writes("bua")},
		{[]byte{31, 60, 59, 1}, writes("buA")},
		{[]byte{31, 20}, writes("but")},
		{[]byte{31, 32}, writes("buing")},
		{[]byte{31, 34}, writes("buab")},
		{[]byte{31, 31, 1}, nil},
		{[]byte{31, 30}, nil},
		{[]byte{1, 31, 1}, nil},
		{[]byte{30, 32}, nil},
		{[]byte{32, 1}, nil},
		{[]byte{1, 32, 32, 1}, writes("ainginga")},
		{[]byte{34, 32}, writes("abing")},
		{[]byte{60, 59, 34, 60, 59, 32}, writes("AbIng")},
		{[]byte{61, 58, 41, 42, 62, 57, 31, 1}, writes("01bua")},
		{[]byte{61, 58, 41, 42, 62, 57, 60, 59, 30}, writes("01But")},
		{[]byte{63, 56, 55, 54, 35, 1, 36}, writes("|bua ")},
		{[]byte{63, 56, 55, 54, 36}, writes("| ")},
		{[]byte{63, 56, 55, 54, 61, 58, 50}, writes("|9")},
		{[]byte{63, 56, 55, 54, 30}, nil},
		{[]byte{1, 63, 56, 55, 54, 35, 1, 63, 56, 55, 54, 30}, writes("a|bua|but")},
		{[]byte{1, 63, 56, 55}, nil},
	} {
		if got, e := All(t, c.cells, 64); e != api.OK || !equal(got, c.want) {
			test.Errorf("P9.1: All of %v is %v, %d", c.cells, got, e)
		}
	}
}

// TestP9_1Order checks the order of texts that differ in a language, a character, or an end.
func TestP9_1Order(test *testing.T) {
	t := plain(rule("c", api.Word, 1), rule("aa", api.Any, 1), rule(" ", api.Any, 1), rule(".", api.Any, 1), rule("b", api.Word, 1, 1), rule("~", api.Any, 1, 1))
	t.Switch, t.Cap, t.Num = []byte{1}, []byte{1}, []byte{1}
	t.Digits[3], t.Digits[7] = 1, 1
	t.Lang[1].Rules[1].Cells = []byte{1}
	if got, e := All(t, []byte{1}, 64); e != api.OK || !equal(got, writes(" ", ".", "a", "aa", "c")) {
		test.Errorf("P9.1: the texts of a cell are %v, %d", got, e)
	}
	want := writes("  ", " .", " a", " aa", " c", ". ", "..", ".a", ".aa", ".c", "3", "7", "A", "Aa", "C", "a ", "a.", "aa", "aa ", "aa.", "aaa", "aaaa", "b", "c ", "c.", "~", "|a", "|b")
	for most := 1; most <= 64; most++ {
		if got, e := All(t, []byte{1, 1}, most); e != api.OK || !equal(got, want[:min(most, len(want))]) {
			test.Errorf("P9.1: the first %d texts of two cells are %v, %d", most, got, e)
		}
	}
	for k, w := range want {
		if k > 0 && before(want[k-1], w) >= 0 {
			test.Errorf("P9.1: %v is not before %v", want[k-1], w)
		}
	}
}

// TestP9_1Once checks that a text with many translations that have the same cells is found once.
func TestP9_1Once(test *testing.T) {
	t := plain(rule("aa", api.Any, 1, 1), rule("aaa", api.Any, 1, 1, 1), rule("aa", api.Start, 1, 1), rule("aa", api.Word, 1, 1), rule("a", api.Inner, 1))
	for _, n := range []int{1, 2, 63, 64, 65, 200} {
		cells := slices.Repeat([]byte{1}, n)
		if got, e := All(t, cells, 64); e != api.OK || !equal(got, writes(strings.Repeat("a", n))) {
			test.Errorf("P9.1: All of %d cells has %d texts, %d", n, len(got), e)
		}
		if l, e := Read(t, cells); e != api.OK || len(l) != n {
			test.Errorf("P9.2: Read of %d cells has %d characters, %d", n, len(l), e)
		}
	}
}

func TestP9_1Errors(test *testing.T) {
	whole, long := slices.Repeat([]byte{1}, 8192), slices.Repeat([]byte{1}, 8193)
	many := sample()
	many.Lang[1].Rules = slices.Repeat(many.Lang[1].Rules[:1], 97)
	for i, c := range []struct {
		t     api.Tables
		cells []byte
		most  int
		e     api.Errno
	}{
		{sample(), whole, 64, api.OK},
		{sample(), whole, 1, api.OK},
		{sample(), whole, 0, api.ErrArg},
		{sample(), nil, 65, api.ErrArg},
		{sample(), nil, -1, api.ErrArg},
		{sample(), nil, math.MinInt, api.ErrArg},
		{sample(), []byte{0}, math.MaxInt, api.ErrArg},
		{sample(), long, 1, api.ErrLimit},
		{sample(), long, 0, api.ErrLimit},
		{sample(), long, 65, api.ErrLimit},
		{sample(), slices.Repeat([]byte{0}, 8193), 1, api.ErrLimit},
		{wrong(), nil, 1, api.ErrArg},
		{wrong(), long, 0, api.ErrArg},
		{many, long, 0, api.ErrLimit},
		{many, nil, 0, api.ErrLimit},
		{api.Tables{}, long, 0, api.ErrArg},
	} {
		l, e := All(c.t, c.cells, c.most)
		if e != c.e || e != api.OK && len(l) > 0 {
			test.Errorf("P9.1: All %d has the error %d", i, e)
		}
	}
}

func TestP9_1Memory(test *testing.T) {
	t := plain(rule("b", api.Word, 1), rule("aa", api.Any, 1))
	cells := []byte{1}
	got, _ := All(t, cells, 64)
	again, _ := All(t, cells, 64)
	cells[0] = 9
	for i := range got {
		got[i] = append(got[i], api.Sym{})
		got[i][0].C = 'x'
		if i+1 < len(got) && !slices.Equal(got[i+1], again[i+1]) {
			test.Error("P9.1: texts share memory")
		}
	}
	if !equal(again, writes("a", "aa", "b")) {
		test.Errorf("P9.1: All is %v", again)
	}
}

func TestP9_2Errors(test *testing.T) {
	t := plain(rule("b", api.Word, 1), rule("c", api.Start, 28))
	for i, c := range []struct {
		t     api.Tables
		cells []byte
		e     api.Errno
	}{
		{t, nil, api.OK},
		{t, []byte{1, 2}, api.OK},
		{t, []byte{1}, api.ErrOpen},
		{t, []byte{1, 61, 41}, api.ErrOpen},
		{t, []byte{28}, api.ErrForm},
		{t, []byte{0}, api.ErrForm},
		{t, []byte{1, 0}, api.ErrForm},
		{t, slices.Repeat([]byte{3}, 8192), api.OK},
		{t, slices.Repeat([]byte{0}, 8192), api.ErrForm},
		{t, slices.Repeat([]byte{3}, 8193), api.ErrLimit},
		{t, slices.Repeat([]byte{0}, 8193), api.ErrLimit},
		{wrong(), slices.Repeat([]byte{0}, 8193), api.ErrArg},
		{wrong(), nil, api.ErrArg},
	} {
		l, e := Read(c.t, c.cells)
		if e != c.e || e != api.OK && len(l) > 0 {
			test.Errorf("P9.2: Read %d has the error %d", i, e)
		}
	}
}

func TestP9_3Examples(test *testing.T) {
	t := sample()
	t.Switch, t.End = []byte{63, 62, 61}, []byte{62, 59}
	for _, c := range []struct {
		cells []byte
		want  int
	}{
		{nil, 0},
		{[]byte{0}, 0},
		{[]byte{61, 48, 1}, 2},
		{[]byte{61, 48, 62, 59, 1}, 5},
		{[]byte{61, 48, 62, 1}, 3},
		{[]byte{61, 1}, 1},
		{[]byte{31, 20}, 1},
		{[]byte{31, 60, 1}, 1},
		{[]byte{31, 63, 62, 60, 1}, 3},
		{[]byte{31, 63, 62, 61, 60, 1}, 6},
		{[]byte{1, 63, 62, 61, 63, 62, 61}, 4},
		{[]byte{63, 62, 61}, 3},
		{[]byte{1, 2, 60}, 3},
		{[]byte{1, 2, 60, 33}, 3},
		{[]byte{1, 2, 60, 61}, 3},
		{[]byte{1, 62, 59}, 1},
		{[]byte{48}, 0},
		{[]byte{1, 64}, 1},
		{[]byte{1, 2, 3, 200, 1}, 3},
	} {
		if k, e := Good(t, c.cells); e != api.OK || k != c.want {
			test.Errorf("P9.3: Good of %v is %d, %d, not %d", c.cells, k, e, c.want)
		}
	}
	t = plain(rule("be", api.Start, 30), rule("but", api.Word, 31, 32, 33, 34))
	for _, c := range []struct {
		cells []byte
		want  int
	}{
		{[]byte{30}, 1},
		{[]byte{30, 61}, 1},
		{[]byte{30, 63}, 1},
		{[]byte{30, 30}, 1},
		{[]byte{30, 60}, 2},
		{[]byte{30, 1, 31}, 2},
		{[]byte{31, 32, 33}, 3},
		{[]byte{31, 32, 34}, 2},
		{[]byte{31, 32, 33, 34, 60}, 4},
		{[]byte{31, 32, 33, 34, 61}, 5},
		{[]byte{31, 32, 33, 34, 63, 60, 1}, 7},
	} {
		if k, e := Good(t, c.cells); e != api.OK || k != c.want {
			test.Errorf("P9.3: Good of %v is %d, %d, not %d", c.cells, k, e, c.want)
		}
	}
}

func TestP9_3Errors(test *testing.T) {
	whole, long := slices.Repeat([]byte{1}, 8192), slices.Repeat([]byte{1}, 8193)
	for i, c := range []struct {
		t     api.Tables
		cells []byte
		k     int
		e     api.Errno
	}{
		{sample(), whole, 8192, api.OK},
		{sample(), long, 0, api.ErrLimit},
		{sample(), make([]byte, 8193), 0, api.ErrLimit},
		{wrong(), long, 0, api.ErrArg},
		{wrong(), whole, 0, api.ErrArg},
	} {
		if k, e := Good(c.t, c.cells); k != c.k || e != c.e {
			test.Errorf("P9.3: Good %d is %d, %d", i, k, e)
		}
	}
}

func TestP9_4Limits(test *testing.T) {
	t := sample()
	t.Lang[0].Rules[0].Cells = []byte{1, 2, 3, 4}
	t.Lang[0].Rules[1].Cells = []byte{1, 2, 3, 4, 5}[:4]
	a := func(n int) []api.Sym { return write(strings.Repeat("a", n)) }
	cells := func(n int) []byte { return slices.Repeat([]byte{1, 2, 3, 4}, n) }
	for i, c := range []struct {
		t     api.Tables
		l     []api.Sym
		cells []byte
		want  bool
	}{
		{t, nil, nil, true},
		{t, []api.Sym{}, []byte{}, true},
		{t, nil, []byte{1}, false},
		{t, a(1), nil, false},
		{t, a(1), []byte{1, 2, 3}, false},
		{t, a(1), []byte{1, 2, 3, 4}, true},
		{t, a(1), []byte{1, 2, 3, 4, 1}, false},
		{t, a(1), []byte{1, 2, 3, 64 + 4}, false},
		{t, a(2048), cells(2048), true},
		{t, a(2047), cells(2048), false},
		{t, a(2049), cells(2049), false},
		{t, append(a(2047), write("A")...), append(cells(2047), 60, 1, 2, 3, 4), false},
		{t, append(a(2046), write("A")...), append(cells(2046), 60, 1, 2, 3, 4), true},
		{plain(), a(2049), slices.Repeat([]byte{1}, 2049), false},
		{plain(), a(2048), slices.Repeat([]byte{1}, 2048), true},
		{wrong(), nil, nil, false},
		{api.Tables{}, nil, nil, false},
		{t, []api.Sym{{Lang: 2, C: 'a'}}, []byte{1, 2, 3, 4}, false},
		{t, []api.Sym{{Lang: -1, C: 'a'}}, []byte{63, 1, 2, 3, 4}, false},
		{t, []api.Sym{{Lang: math.MaxInt, C: 'a'}}, []byte{63, 1}, false},
		{t, []api.Sym{{C: 'a'}, {C: 31}}, []byte{1, 2, 3, 4}, false},
		{t, []api.Sym{{C: 127}}, nil, false},
		{t, []api.Sym{{C: 0}}, nil, false},
		{t, write("?"), nil, false},
	} {
		if got := Is(c.t, c.l, c.cells); got != c.want {
			test.Errorf("P9.4: Is %d is %t", i, got)
		}
	}
}

func TestP9_4Arguments(test *testing.T) {
	t, l, cells := sample(), write("An7.|a"), []byte{60, 31, 61, 48, 33, 63, 1}
	if !Is(t, l, cells) || !reflect.DeepEqual(t, sample()) || !slices.Equal(l, write("An7.|a")) || !slices.Equal(cells, []byte{60, 31, 61, 48, 33, 63, 1}) {
		test.Error("P9.4: Is is false, or changes its arguments")
	}
}

// TestP9_1Long checks cells up to the limit that have very many texts, some of them long.
func TestP9_1Long(test *testing.T) {
	t := plain()
	for k := 2; k <= 8; k++ {
		for w := range 4 {
			t.Lang[0].Rules = append(t.Lang[0].Rules, rule(strings.Repeat("a", k), w, 1))
		}
	}
	cells := slices.Repeat([]byte{1}, 8192)
	check := func(want func(k int) string) {
		got, e := All(t, cells, 64)
		if e != api.OK || len(got) != 64 {
			test.Fatalf("P9.1: All of 8192 cells has %d texts, %d", len(got), e)
		}
		for k, l := range got {
			if !slices.Equal(l, write(want(k))) {
				test.Errorf("P9.1: the text %d of 8192 cells has %d characters", k, len(l))
			}
		}
		if l, e := Read(t, cells); e != api.ErrOpen || len(l) > 0 {
			test.Errorf("P9.2: Read of 8192 cells is %d", e)
		}
		if k, e := Good(t, cells); e != api.OK || k != 8192 {
			test.Errorf("P9.3: Good of 8192 cells is %d, %d", k, e)
		}
	}
	check(func(k int) string { return strings.Repeat("a", 8192+k) })
	cells[8191] = 26
	check(func(k int) string { return strings.Repeat("a", 8*8191-k) + "z" })
	cells[8191] = 0
	if got, e := All(t, cells, 64); e != api.OK || len(got) > 0 {
		test.Errorf("P9.1: All has %d texts of cells that end with 0", len(got))
	}
	if k, e := Good(t, cells); e != api.OK || k != 8191 {
		test.Errorf("P9.3: Good of cells that end with 0 is %d, %d", k, e)
	}
}

// TestP9_1Early checks texts that differ at their beginning and have many cells after it.
func TestP9_1Early(test *testing.T) {
	t := plain(rule("d", api.Word, 3), rule("e", api.Word, 3))
	t.Lang[0].Rules[1].Cells = []byte{3}
	cells := slices.Concat([]byte{3, 3, 3}, slices.Repeat([]byte{1}, 4000), []byte{61, 41, 62, 3})
	want := []string{}
	for _, a := range []string{"bbb", "bbc", "bcb", "bcc", "cbb", "cbc", "ccb", "ccc"} {
		for _, z := range []string{"b", "c", "d", "e"} {
			want = append(want, a+strings.Repeat("a", 4000)+"0"+z)
		}
	}
	for _, most := range []int{1, 5, 31, 32, 33, 64} {
		if got, e := All(t, cells, most); e != api.OK || !equal(got, writes(want[:min(most, 32)]...)) {
			test.Errorf("P9.1: All with %d has %d texts, %d", most, len(got), e)
		}
	}
}

func TestP9_5Written(test *testing.T) {
	r := rand.New(rand.NewSource(95))
	found := 0
	for range 1500 {
		t := anyTables(r, 1+r.Intn(12))
		l := anyText(r, 12, usual)
		c, e := contract.Translate(t, l)
		if e != api.OK {
			continue
		}
		all, e := All(t, c.Cells, 64)
		if e != api.OK || len(all) == 0 || !slices.IsSortedFunc(all, before) {
			test.Fatalf("P9.5: All of %v is %v, %d", c.Cells, all, e)
		}
		for _, x := range all {
			if !Is(t, x, c.Cells) {
				test.Fatalf("P9.5: by Is %v does not have %v", x, c.Cells)
			}
		}
		contains := slices.ContainsFunc(all, func(x []api.Sym) bool { return slices.Equal(x, l) })
		if len(all) < 64 && !contains || len(all) == 64 && before(l, all[63]) <= 0 && !contains {
			test.Fatalf("P9.5: All of %v does not have %v", c.Cells, l)
		}
		if contains {
			found++
		}
		if k, e := Good(t, c.Cells); e != api.OK || k != len(c.Cells) {
			test.Fatalf("P9.7: Good of the cells %v of a text is %d, %d", c.Cells, k, e)
		}
	}
	if found < 500 {
		test.Errorf("P9.5: just %d texts are found", found)
	}
}

func TestP9_6Unique(test *testing.T) {
	r := rand.New(rand.NewSource(96))
	admitted := 0
	for i := range 120 {
		t := different()
		if i > 0 {
			t = anyTables(r, 30)
			t.Digits[0], t.Digits[1] = 38, 39
		}
		if _, _, e := admit.Admit(t); e != api.OK {
			continue
		}
		admitted++
		for range 20 {
			l := anyText(r, 200, usual)
			if i == 0 {
				l = anyText(r, 2048, "aaabbnTheBinghe1290 .")
			}
			if c, e := contract.Translate(t, l); e == api.OK {
				readBack(test, t, l, c.Cells)
				plain, _ := contract.Plain(t, l)
				readBack(test, t, l, plain)
			}
			if _, e := Read(t, anyCells(r, 8, 30)); e == api.ErrOpen {
				test.Fatalf("P9.6: Read is open, by %v", t)
			}
		}
	}
	if admitted < 15 {
		test.Errorf("P9.6: just %d tables are admitted", admitted)
	}
}

// readBack checks that cells have just one text.
func readBack(test *testing.T, t api.Tables, l []api.Sym, cells []byte) {
	if len(cells) > 8192 {
		return
	}
	if got, e := Read(t, cells); e != api.OK || !slices.Equal(got, l) {
		test.Fatalf("P9.6: Read of %v is %v, %d, not %v", cells, got, e, l)
	}
	if all, e := All(t, cells, 64); e != api.OK || !equal(all, [][]api.Sym{l}) {
		test.Fatalf("P9.6: All of %v is %v, %d", cells, all, e)
	}
}

func TestP9_7Beginnings(test *testing.T) {
	r := rand.New(rand.NewSource(97))
	for range 500 {
		t := anyTables(r, 1+r.Intn(8))
		cells := anyCells(r, 30, 8)
		k, e := Good(t, cells)
		if e != api.OK || k < 0 || k > len(cells) {
			test.Fatalf("P9.7: Good of %v is %d, %d", cells, k, e)
		}
		for j := range len(cells) + 1 {
			if got, e := Good(t, cells[:j:j]); e != api.OK || got != min(j, k) {
				test.Fatalf("P9.7: Good of %v is %d, %d", cells[:j], got, e)
			}
		}
	}
}

func TestP9_8Further(test *testing.T) {
	r := rand.New(rand.NewSource(98))
	blanks := 0
	for range 1000 {
		t := anyTables(r, 1+r.Intn(5))
		l := anyText(r, 6, usual)
		lang := 0
		if len(l) > 0 {
			lang = l[len(l)-1].Lang
		}
		all := translations(t, l)
		if len(all) == 0 {
			continue
		}
		cells := all[r.Intn(len(all))]
		for _, x := range t.Lang[lang].Rules {
			if x.Text == " " {
				blanks++
				more := slices.Concat(l, []api.Sym{{Lang: lang, C: ' '}})
				if !Is(t, more, slices.Concat(cells, x.Cells)) {
					test.Fatalf("P9.8: %v does not have the cells %v with a blank", more, cells)
				}
			}
		}
	}
	if blanks < 200 {
		test.Errorf("P9.8: just %d texts go on with a blank", blanks)
	}
}

func TestP9_2TwoLanguages(test *testing.T) {
	t := plain(rule(" ", api.Any, 30))
	t.Lang[1].Rules = append(t.Lang[1].Rules, rule(" ", api.Any, 31))
	l, e := Read(t, []byte{1, 30, 63, 1, 31, 63, 61, 42})
	if e != api.OK || !slices.Equal(l, write("a |a |1")) {
		test.Errorf("P9.2: Read of two languages is %v, %d", l, e)
	}
	if s := table.Runs(l); len(s) != 3 {
		test.Errorf("P9.2: the runs are %v", s)
	}
}

func TestP1EqualCalls(test *testing.T) {
	r := rand.New(rand.NewSource(1))
	for range 200 {
		t := anyTables(r, 2)
		cells := anyCells(r, 12, 2)
		a, e := All(t, cells, 20)
		b, f := All(copied(t), slices.Clone(cells), 20)
		if e != f || !equal(a, b) {
			test.Fatal("P1: equal calls have different results")
		}
	}
}

package hyphen

import (
	"math/rand"
	"slices"
	"strings"
	"testing"

	"dactyl/api"
)

// sample are the patterns of the chapter's examples.
func sample() []string {
	return []string{"1t", "2t3t", ".un1", "e1s2t"}
}

// several returns different patterns.
func several(count int) []string {
	var l []string
	for i := range count {
		l = append(l, string([]byte{byte('a' + i%26), '1', byte('a' + i/26)}))
	}
	return l
}

// badPatterns are lists with each error.
func badPatterns() [][]string {
	return [][]string{{"a1b", "a2b"}, {"a1b", ""}, {"1"}, several(65), {strings.Repeat("a", 17)}}
}

// noWords are texts that are no words.
func noWords() []string {
	return []string{"", strings.Repeat("a", 33), strings.Repeat("ab", 5000), "Batter", "batteR", "bat ter", "bat-ter", ".batter", "batter.", "ba1tter", "b\u00e4tter", "batter\x00", "batter\n", "batt`er", "batt{er", "\xff"}
}

func TestP10_1Form(test *testing.T) {
	for _, s := range []string{"a", "z", "1t", "2t3t", ".un1", "e1s2t", "a0", "0a", "9a9", "1a2b3c4", ".a", "a.", ".a.", ".1a1.", "a1.", ".1a", "abcdefghijklmnop", "1a2b3c4d5e6f7g8h", ".a1b2c3d4e5f6g7."} {
		if e := Valid([]string{s}); e != api.OK {
			test.Errorf("P10.1: Valid of %q is %d", s, e)
		}
	}
	for _, s := range []string{"", ".", "..", "1", "1.", ".1", ".1.", "12", "11a", "a11", "a11b", ".11a", "a11.", "a.b", "..a", "a..", "1.a", "a.1", "a.1.", ".1.a", "A", "aB", "a-b", "a b", " a", "a ", "a,", "\u00e4", "a\u0661b", "a\x00", "a\n", "`", "{", "a/", "a:", "-1a", "+a", "\xff"} {
		if e := Valid([]string{s}); e != api.ErrForm {
			test.Errorf("P10.1: Valid of %q is %d", s, e)
		}
	}
}

func TestP10_1Limits(test *testing.T) {
	for i, c := range []struct {
		l    []string
		want api.Errno
	}{
		{nil, api.OK},
		{[]string{}, api.OK},
		{several(64), api.OK},
		{several(65), api.ErrLimit},
		{slices.Repeat([]string{"a"}, 65), api.ErrLimit},
		{slices.Repeat([]string{""}, 65), api.ErrLimit},
		{slices.Repeat([]string{"a"}, 64), api.ErrTwice},
		{[]string{strings.Repeat("a", 16)}, api.OK},
		{[]string{strings.Repeat("a", 17)}, api.ErrLimit},
		{[]string{"." + strings.Repeat("a", 15)}, api.OK},
		{[]string{"." + strings.Repeat("a", 15) + "."}, api.ErrLimit},
		{[]string{strings.Repeat("a1", 8)}, api.OK},
		{[]string{strings.Repeat("a1", 8) + "b"}, api.ErrLimit},
		{[]string{strings.Repeat("-", 16)}, api.ErrForm},
		{[]string{strings.Repeat("-", 17)}, api.ErrLimit},
	} {
		if e := Valid(c.l); e != c.want {
			test.Errorf("P10.1: case %d: Valid is %d, want %d", i, e, c.want)
		}
	}
}

func TestP10_1Twice(test *testing.T) {
	for _, l := range [][]string{{"ab", "ab"}, {"a1b", "ab"}, {"1ab", "ab2"}, {".a1b", ".ab"}, {"a1b.", "ab9."}, {".a.", ".1a."}, {"ab", "cd", "e", "c0d"}, {"ab", "a0b"}} {
		if e := Valid(l); e != api.ErrTwice {
			test.Errorf("P10.1: Valid of %q is %d", l, e)
		}
	}
	for _, l := range [][]string{{"ab", ".ab", "ab.", ".ab."}, {"ab", "ba", "a", "b", "abb"}, {".a1b", "ab1."}, {"a", "aa", "aaa"}} {
		if e := Valid(l); e != api.OK {
			test.Errorf("P10.1: Valid of %q is %d", l, e)
		}
	}
}

func TestP10_1Order(test *testing.T) {
	long := strings.Repeat("a", 17)
	for i, c := range []struct {
		l    []string
		want api.Errno
	}{
		{[]string{"", long}, api.ErrLimit},
		{[]string{"a", "a", long}, api.ErrLimit},
		{[]string{"a", "a", ""}, api.ErrForm},
		{[]string{"a", "a", "", long}, api.ErrLimit},
		{[]string{"", ""}, api.ErrForm},
		{[]string{long, long}, api.ErrLimit},
		{append(several(64), ""), api.ErrLimit},
	} {
		if e := Valid(c.l); e != c.want {
			test.Errorf("P10.1: case %d: Valid is %d, want %d", i, e, c.want)
		}
	}
}

func TestP10_2Examples(test *testing.T) {
	for _, c := range []struct {
		l    []string
		word string
		want []int
	}{
		{sample(), "batter", []int{0, 0, 2, 3, 0, 0, 0}},
		{sample(), "unrest", []int{0, 0, 1, 0, 1, 2, 0}},
		{sample(), "tat", []int{1, 0, 1, 0}},
		{sample(), "t", []int{1, 0}},
		{sample(), "tt", []int{2, 3, 0}},
		{sample(), "rerun", []int{0, 0, 0, 0, 0, 0}},
		{nil, "a", []int{0, 0}},
		{[]string{"a1a2a"}, "aaaa", []int{0, 1, 2, 2, 0}},
		{[]string{"a2a1a"}, "aaaa", []int{0, 2, 2, 1, 0}},
		{[]string{"1a2"}, "aaa", []int{1, 2, 2, 2}},
		{[]string{"2a1"}, "aaa", []int{2, 2, 2, 1}},
		{[]string{".1a2"}, "aaa", []int{1, 2, 0, 0}},
		{[]string{"1a2."}, "aaa", []int{0, 0, 1, 2}},
		{[]string{".1a2."}, "aaa", []int{0, 0, 0, 0}},
		{[]string{".1a2."}, "a", []int{1, 2}},
		{[]string{".a3a."}, "aa", []int{0, 3, 0}},
		{[]string{".a3a."}, "aaa", []int{0, 0, 0, 0}},
		{[]string{"a3b", "a4b.", ".a5b", ".a6b."}, "ab", []int{0, 6, 0}},
		{[]string{"a3b", "a4b.", ".a5b", ".a6b."}, "abab", []int{0, 5, 0, 4, 0}},
		{[]string{"a3b", "a4b.", ".a5b", ".a6b."}, "cabc", []int{0, 0, 3, 0, 0}},
		{[]string{"a3b", "a4b.", ".a5b", ".a6b."}, "cab", []int{0, 0, 4, 0}},
		{[]string{"a3b", "a4b.", ".a5b", ".a6b."}, "abc", []int{0, 5, 0, 0}},
		{[]string{"9abc9"}, "ab", []int{0, 0, 0}},
		{[]string{"9abc9"}, "abc", []int{9, 0, 0, 9}},
		{[]string{"9abc9"}, "abd", []int{0, 0, 0, 0}},
		{[]string{"a0b", "8a", "b7"}, "ab", []int{8, 0, 7}},
		{[]string{"3a", "5ab", "4abc"}, "abc", []int{5, 0, 0, 0}},
	} {
		if got := Values(c.l, c.word); !slices.Equal(got, c.want) {
			test.Errorf("P10.2: Values of %q with %q are %v, want %v", c.word, c.l, got, c.want)
		}
	}
}

func TestP10_2Long(test *testing.T) {
	letters := "abcdefghijklmnop"
	word := letters + letters
	got := Values([]string{letters}, word)
	if !slices.Equal(got, make([]int, 33)) {
		test.Errorf("P10.2: Values of 32 letters are %v", got)
	}
	want := make([]int, 33)
	want[0], want[15], want[16], want[31] = 3, 4, 3, 4
	if got := Values([]string{"3abcdefghijklmn", "4p"}, word); !slices.Equal(got, want) {
		test.Errorf("P10.2: Values of 32 letters are %v, want %v", got, want)
	}
	want = slices.Repeat([]int{7}, 33)
	want[0] = 0
	if got := Values([]string{"a7"}, strings.Repeat("a", 32)); !slices.Equal(got, want) {
		test.Errorf("P10.2: Values of 32 letters are %v, want %v", got, want)
	}
	sixteen := strings.Repeat("z", 16)
	if got := Values([]string{sixteen, "1zzzzzzzzzzzzzzz"}, sixteen); got[0] != 1 || got[1] != 1 || got[2] != 0 {
		test.Errorf("P10.2: Values of 16 letters are %v", got)
	}
}

func TestP10_2None(test *testing.T) {
	for _, word := range noWords() {
		if got := Values([]string{"a1"}, word); len(got) > 0 {
			test.Errorf("P10.2: Values of %q are %v", word, got)
		}
	}
	for _, l := range badPatterns() {
		if got := Values(l, "aab"); len(got) > 0 {
			test.Errorf("P10.2: Values with %q are %v", l, got)
		}
	}
}

func TestP10_3Examples(test *testing.T) {
	everywhere := []string{"1a1", "1b1"}
	for _, c := range []struct {
		l     []string
		word  string
		want  []int
		parts []string
	}{
		{sample(), "batter", []int{3}, []string{"bat", "ter"}},
		{sample(), "unrest", []int{2, 4}, []string{"un", "re", "st"}},
		{sample(), "tat", nil, []string{"tat"}},
		{sample(), "unit", []int{2}, []string{"un", "it"}},
		{sample(), "unt", nil, []string{"unt"}},
		{sample(), "test", []int{2}, []string{"te", "st"}},
		{sample(), "at", nil, []string{"at"}},
		{nil, "batter", nil, []string{"batter"}},
		{everywhere, "a", nil, []string{"a"}},
		{everywhere, "ab", nil, []string{"ab"}},
		{everywhere, "aba", nil, []string{"aba"}},
		{everywhere, "abab", []int{2}, []string{"ab", "ab"}},
		{everywhere, "ababa", []int{2, 3}, []string{"ab", "a", "ba"}},
		{everywhere, "ababab", []int{2, 3, 4}, []string{"ab", "a", "b", "ab"}},
		{[]string{"ab1ab", "ab2aba"}, "abababab", []int{6}, []string{"ababab", "ab"}},
		{[]string{"aa9aa"}, "aaaa", []int{2}, []string{"aa", "aa"}},
		{[]string{"aa8aa"}, "aaaa", nil, []string{"aaaa"}},
	} {
		if got := Points(c.l, c.word); !slices.Equal(got, c.want) {
			test.Errorf("P10.3: Points of %q with %q are %v, want %v", c.word, c.l, got, c.want)
		}
		if got := Parts(c.l, c.word); !slices.Equal(got, c.parts) {
			test.Errorf("P10.3: Parts of %q with %q are %q, want %q", c.word, c.l, got, c.parts)
		}
	}
}

func TestP10_3Digits(test *testing.T) {
	for digit := range 10 {
		var want []int
		if digit%2 == 1 {
			want = []int{2}
		}
		l := []string{"ab" + string([]byte{byte('0' + digit)}) + "cd"}
		if got := Points(l, "abcd"); !slices.Equal(got, want) {
			test.Errorf("P10.3: Points with %q are %v, want %v", l, got, want)
		}
	}
}

func TestP10_3Long(test *testing.T) {
	word := strings.Repeat("a", 32)
	var want []int
	for k := 2; k <= 30; k++ {
		want = append(want, k)
	}
	if got := Points([]string{"1a1"}, word); !slices.Equal(got, want) {
		test.Errorf("P10.3: Points of 32 letters are %v", got)
	}
	if got := Parts([]string{"1a1"}, word); len(got) != 30 || got[0] != "aa" || got[1] != "a" || got[29] != "aa" {
		test.Errorf("P10.3: Parts of 32 letters are %q", got)
	}
}

func TestP10_3None(test *testing.T) {
	for _, word := range noWords() {
		points, parts := Points([]string{"1a1", "1b1", "1t1"}, word), Parts([]string{"1a1", "1b1", "1t1"}, word)
		if len(points) > 0 || len(parts) > 0 {
			test.Errorf("P10.3: Points and Parts of %q are %v and %q", word, points, parts)
		}
	}
	for _, l := range badPatterns() {
		points, parts := Points(l, "aabb"), Parts(l, "aabb")
		if len(points) > 0 || len(parts) > 0 {
			test.Errorf("P10.3: Points and Parts with %q are %v and %q", l, points, parts)
		}
	}
}

func TestP10_4Examples(test *testing.T) {
	for _, c := range []struct {
		l     []string
		words []string
		want  []int
	}{
		{sample(), []string{"batter"}, []int{1}},
		{sample(), []string{"unrest"}, []int{2, 3}},
		{sample(), []string{"unrest", "batter"}, []int{1, 2, 3}},
		{sample(), []string{"batter", "batter"}, []int{1}},
		{sample(), []string{"tat"}, nil},
		{sample(), []string{"untie"}, []int{}},
		{sample(), []string{"total"}, []int{0}},
		{sample(), nil, nil},
		{nil, []string{"batter"}, nil},
		{sample(), []string{"ab", "Batter", "bat-ter", "", strings.Repeat("t", 33)}, nil},
		{sample(), []string{"Batter", "batter", ""}, []int{1}},
		{[]string{"b1c", "ab1c"}, []string{"abcd"}, nil},
		{[]string{"b1c", "ab3c"}, []string{"abcd"}, nil},
		{[]string{"b1c", "ab2c"}, []string{"abcd"}, []int{1}},
		{[]string{"b1c", "ab2c", "b1cd"}, []string{"abcd"}, []int{1}},
		{[]string{"b1c", "ab2c", "b2cd"}, []string{"abcd"}, nil},
		{[]string{"b1c", "ab2c", "b3cd"}, []string{"abcd"}, []int{2}},
		{[]string{"b3c", "ab1c", "b2cd"}, []string{"abcd"}, []int{0}},
		{[]string{"b3c", "ab1c", "b1cd"}, []string{"abcd"}, nil},
		{[]string{"b1c"}, []string{"abcd"}, []int{0}},
		{[]string{"b2c"}, []string{"abcd"}, nil},
		{[]string{"a1b", "c1d"}, []string{"abcd"}, nil},
		{[]string{"a2a1a"}, []string{"aaaa"}, nil},
		{[]string{"a1a2a"}, []string{"aaaaa"}, nil},
		{[]string{"a2a3a", "a1a"}, []string{"aaaa"}, nil},
		{[]string{"a2a3a", "a2a"}, []string{"aaaa"}, []int{0}},
		{[]string{"a1a", "a2a1a"}, []string{"aaaa"}, []int{1}},
		{[]string{"a3a1a", "1a"}, []string{"aaaa"}, nil},
		{[]string{"a3a1a", "2a"}, []string{"aaaa"}, []int{0}},
		{[]string{"1b", "1c", "1d"}, []string{"abcde", "xxbxx", "dxx"}, []int{0, 1, 2}},
	} {
		if got := Needed(c.l, c.words); !slices.Equal(got, c.want) {
			test.Errorf("P10.4: Needed of %q with %q is %v, want %v", c.words, c.l, got, c.want)
		}
	}
}

func TestP10_4None(test *testing.T) {
	for _, l := range badPatterns() {
		if got := Needed(l, []string{"aabb", "abab"}); len(got) > 0 {
			test.Errorf("P10.4: Needed with %q is %v", l, got)
		}
	}
	if got := Needed([]string{"1a1", "1b1", "1t1"}, noWords()); len(got) > 0 {
		test.Errorf("P10.4: Needed of texts that are no words is %v", got)
	}
}

func TestP10_4Limits(test *testing.T) {
	l := several(64)
	var words []string
	want := make([]int, 64)
	for i, s := range l {
		words = append(words, "x"+s[:1]+s[2:]+"x")
		want[i] = i
	}
	if got := Needed(l, words); !slices.Equal(got, want) {
		test.Errorf("P10.4: Needed with 64 patterns is %v", got)
	}
	if got := Needed(l, slices.Repeat([]string{"xlbx"}, 20000)); !slices.Equal(got, []int{37}) {
		test.Errorf("P10.4: Needed of 20000 words is %v", got)
	}
}

func TestP10_5Pieces(test *testing.T) {
	r := rand.New(rand.NewSource(105))
	for range 3000 {
		l, word := anyPatterns(r, 12, "123579"), anyLongWord(r)
		parts := Parts(l, word)
		if strings.Join(parts, "") != word {
			test.Fatalf("P10.5: Parts of %q with %q are %q", word, l, parts)
		}
		if len(parts) == 1 {
			continue
		}
		for i, s := range parts {
			if s == "" || len(s) < 2 && (i == 0 || i == len(parts)-1) {
				test.Fatalf("P10.5: Parts of %q with %q are %q", word, l, parts)
			}
		}
	}
}

func TestP10_6More(test *testing.T) {
	r := rand.New(rand.NewSource(106))
	greater := 0
	for range 3000 {
		l, word := anyPatterns(r, 12, "0123456789"), anyLongWord(r)
		if len(l) == 0 {
			continue
		}
		k := r.Intn(len(l))
		less := Values(slices.Delete(slices.Clone(l), k, k+1), word)
		for i, v := range Values(l, word) {
			if v < less[i] {
				test.Fatalf("P10.6: with %q the value %d of %q is %d, without the pattern %d it is %d", l, i, word, v, k, less[i])
			}
			if v > less[i] {
				greater++
			}
		}
	}
	if greater < 500 {
		test.Errorf("P10.6: only %d values become greater", greater)
	}
}

func TestP10_6Unneeded(test *testing.T) {
	r := rand.New(rand.NewSource(1006))
	for range 2000 {
		l := append([]string{"1d1", ".1c1a1b1.", "1aaaaaaaaaaaaa1", "1ab1d"}, anyPatterns(r, 8, "0123456789")...)
		if Valid(l) != api.OK {
			continue
		}
		needed := Needed(l, []string{anyWord(r, 12), anyWord(r, 12)})
		for _, i := range needed {
			if i == 0 || i == 2 || i == 3 {
				test.Fatalf("P10.6: the pattern %q occurs nowhere and is Needed", l[i])
			}
		}
	}
}

func TestP10_7Order(test *testing.T) {
	r := rand.New(rand.NewSource(107))
	for range 2000 {
		l := anyPatterns(r, 12, "0123456789")
		words := []string{anyLongWord(r), anyLongWord(r)}
		order := r.Perm(len(l))
		turned := make([]string, len(l))
		for i, k := range order {
			turned[i] = l[k]
		}
		for _, w := range words {
			if !slices.Equal(Values(l, w), Values(turned, w)) || !slices.Equal(Points(l, w), Points(turned, w)) || !slices.Equal(Parts(l, w), Parts(turned, w)) {
				test.Fatalf("P10.7: %q is divided in another way with %q than with %q", w, l, turned)
			}
		}
		if one, other := names(l, Needed(l, words)), names(turned, Needed(turned, words)); !slices.Equal(one, other) {
			test.Fatalf("P10.7: Needed names %q of %q, but %q of %q", one, l, other, turned)
		}
	}
}

// names returns the patterns with these indices, sorted; the indices have to increase.
func names(l []string, indices []int) []string {
	var found []string
	for k, i := range indices {
		if k > 0 && i <= indices[k-1] {
			return []string{"no order"}
		}
		found = append(found, l[i])
	}
	slices.Sort(found)
	return found
}

func TestP10_8Even(test *testing.T) {
	r := rand.New(rand.NewSource(108))
	for range 2000 {
		l, word := anyPatterns(r, 12, "02468"), anyLongWord(r)
		if points, parts := Points(l, word), Parts(l, word); len(points) > 0 || !slices.Equal(parts, []string{word}) {
			test.Fatalf("P10.8: %q is divided with %q: %v %q", word, l, points, parts)
		}
	}
}

func TestP10_8Whole(test *testing.T) {
	r := rand.New(rand.NewSource(1008))
	for range 2000 {
		l, word := anyPatterns(r, 12, "012345678"), anyWord(r, 7)
		whole := []byte{'.'}
		var nines []int
		for i := range len(word) + 1 {
			if r.Intn(2) == 0 {
				whole = append(whole, '9')
				nines = append(nines, i)
			}
			if i < len(word) {
				whole = append(whole, word[i])
			}
		}
		more := append([]string{string(append(whole, '.'))}, l...)
		if Valid(more) != api.OK {
			continue
		}
		values := Values(more, word)
		for i, v := range values {
			if (v == 9) != slices.Contains(nines, i) {
				test.Fatalf("P10.8: Values of %q with %q are %v", word, more, values)
			}
		}
	}
}

func TestP10_2Memory(test *testing.T) {
	l, words := sample(), []string{"unrest", "batter"}
	first := results(l, words)
	first[1].([]int)[0] = 99
	for _, x := range first[2:] {
		switch x := x.(type) {
		case []int:
			x[0] = 99
		case []string:
			x[0] = "x"
		}
	}
	if !slices.Equal(l, sample()) || !slices.Equal(words, []string{"unrest", "batter"}) {
		test.Errorf("P10.2: the arguments are changed: %q %q", l, words)
	}
	if got := Values(l, "unrest"); !slices.Equal(got, []int{0, 0, 1, 0, 1, 2, 0}) {
		test.Errorf("P10.2: Values are %v after earlier results were changed", got)
	}
	if got := Parts(l, "unrest"); !slices.Equal(got, []string{"un", "re", "st"}) {
		test.Errorf("P10.3: Parts are %q after earlier results were changed", got)
	}
	if got := Needed(l, words); !slices.Equal(got, []int{1, 2, 3}) {
		test.Errorf("P10.4: Needed is %v after earlier results were changed", got)
	}
}

// TestP10_2Iterator looks whether the iterator ends where its caller does.
func TestP10_2Iterator(test *testing.T) {
	p, e := read([]string{"1a", "a2a", ".a"})
	if e != api.OK {
		test.Fatalf("P10.2: the patterns are not read: %d", e)
	}
	all := 0
	for range p.occurrences("aaa") {
		all++
	}
	if all != 6 {
		test.Errorf("P10.2: %d patterns occur, want 6", all)
	}
	for most := 1; most <= all; most++ {
		seen := 0
		for range p.occurrences("aaa") {
			seen++
			if seen == most {
				break
			}
		}
		if seen != most {
			test.Errorf("P10.2: %d patterns are seen, want %d", seen, most)
		}
	}
}

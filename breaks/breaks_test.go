package breaks

import (
	"math/rand"
	"slices"
	"testing"

	"dactyl/api"
)

const (
	minInt = -1 << 63
	maxInt = 1<<63 - 1
	line   = 1 << 32
)

func TestP11_1Examples(test *testing.T) {
	for i, c := range []struct {
		l     []Word
		width int
		ends  [][2]int
		least [][]int
	}{
		{whole(3, 2, 5), 6, [][2]int{{2, 0}, {3, 0}}, [][]int{{2 * line}, {2*line + 16}, {line}}},
		{whole(3, 2, 5), 5, [][2]int{{1, 0}, {2, 0}, {3, 0}}, [][]int{{3*line + 13}, {2*line + 9}, {line}}},
		{[]Word{pieces(4, 3)}, 5, [][2]int{{0, 1}, {1, 0}}, [][]int{{2 * line, line}}},
		{[]Word{pieces(26), pieces(11, 12)}, 39, [][2]int{{1, 1}, {2, 0}}, [][]int{{2 * line}, {line, line}}},
		{nil, 1, nil, nil},
		{[]Word{}, 512, nil, nil},
		{whole(0), 1, [][2]int{{1, 0}}, [][]int{{line}}},
		{whole(1), 1, [][2]int{{1, 0}}, [][]int{{line}}},
		{whole(0, 0), 1, [][2]int{{2, 0}}, [][]int{{line}, {line}}},
		{whole(0, 0, 0), 1, [][2]int{{2, 0}, {3, 0}}, [][]int{{2 * line}, {line}, {line}}},
		{whole(512), 512, [][2]int{{1, 0}}, [][]int{{line}}},
		{whole(5, 0, 5), 5, [][2]int{{1, 0}, {2, 0}, {3, 0}}, [][]int{{3*line + 25}, {2*line + 25}, {line}}},
		{whole(4, 0, 5), 5, [][2]int{{2, 0}, {3, 0}}, [][]int{{2 * line}, {2*line + 25}, {line}}},
	} {
		got, e := Fill(c.l, c.width)
		if e != api.OK || !equalCerts(got, Cert{c.ends, c.least}) {
			test.Errorf("P11.1: case %d: Fill is %v %d", i, got, e)
		}
	}
}

func TestP11_1Wide(test *testing.T) {
	for i, c := range []struct {
		l     []Word
		width int
	}{
		{whole(2), 1},
		{whole(513), 512},
		{whole(4096), 512},
		{whole(1, 1, 3, 1), 2},
		{whole(3, 1), 2},
		{whole(1, 3), 2},
		{[]Word{pieces(2, 2)}, 2},
		{[]Word{pieces(1, 3)}, 2},
		{[]Word{pieces(3, 1)}, 3},
		{[]Word{pieces(2, 4, 2)}, 4},
	} {
		got, e := Fill(c.l, c.width)
		if e != api.ErrWide || !equalCerts(got, Cert{}) {
			test.Errorf("P11.1: case %d: Fill is %v %d", i, got, e)
		}
	}
}

// A place from which no lines lead to the end has -1, also if there is a division.
func TestP11_1Dead(test *testing.T) {
	l := []Word{{[][]int{{3, 4}, {9}}}, {[][]int{{1, 8, 5}, {1, 8}, {2}}}}
	got, e := Fill(l, 5)
	want := Cert{[][2]int{{1, 0}, {2, 0}}, [][]int{{2*line + 1, -1}, {line, 2*line + 9, line}}}
	if e != api.OK || !equalCerts(got, want) {
		test.Errorf("P11.1: Fill is %v %d, want %v", got, e, want)
	}
	if e := Check(l, 5, want); e != api.OK {
		test.Errorf("P11.2: Check is %d", e)
	}
	for _, row := range [][]int{{2*line + 1}, {2*line + 1, -1, -1}, {2*line + 1, -2}, {2*line + 1, 0}} {
		if e := Check(l, 5, Cert{want.Ends, [][]int{row, want.Least[1]}}); e != api.ErrProof {
			test.Errorf("P11.2: Check with %v is %d", row, e)
		}
	}
}

// The fewest lines come first, and then the squares, of all lines but the last one.
func TestP11_1Cost(test *testing.T) {
	for i, c := range []struct {
		l     []Word
		width int
		ends  [][2]int
	}{
		{whole(2, 2, 2, 7), 8, [][2]int{{3, 0}, {4, 0}}},
		{whole(9, 1, 9, 9), 10, [][2]int{{1, 0}, {2, 0}, {3, 0}, {4, 0}}},
		{whole(3, 2, 2, 5), 6, [][2]int{{1, 0}, {3, 0}, {4, 0}}},
		{whole(4, 4, 4), 9, [][2]int{{2, 0}, {3, 0}}},
		{whole(1, 1), 2, [][2]int{{1, 0}, {2, 0}}},
		{whole(5, 1, 1, 5), 7, [][2]int{{2, 0}, {4, 0}}},
		{whole(1, 1, 5, 1), 5, [][2]int{{2, 0}, {3, 0}, {4, 0}}},
		{[]Word{pieces(5), pieces(2, 3, 2), pieces(5)}, 11, [][2]int{{1, 1}, {3, 0}}},
		{[]Word{pieces(3), pieces(2, 2), pieces(1)}, 7, [][2]int{{1, 1}, {3, 0}}},
	} {
		got, e := Fill(c.l, c.width)
		want, _ := model(c.l, c.width)
		if e != api.OK || !slices.Equal(got.Ends, c.ends) || !equalCerts(got, want) {
			test.Errorf("P11.1: case %d: Fill is %v %d, model %v", i, got, e, want)
		}
	}
}

func TestP11_1Ties(test *testing.T) {
	l := []Word{{[][]int{{2, 2, 9}, {2, 2}, {2}}}}
	got, e := Fill(l, 3)
	if e != api.OK || !slices.Equal(got.Ends, [][2]int{{0, 2}, {1, 0}}) || got.Least[0][0] != 2*line {
		test.Errorf("P11.1: Fill is %v %d", got, e)
	}
	got, e = Fill(whole(3, 1, 3, 7), 7) // 3 1, 3 or 3, 1 3
	if e != api.OK || !slices.Equal(got.Ends, [][2]int{{2, 0}, {3, 0}, {4, 0}}) {
		test.Errorf("P11.1: Fill is %v %d", got, e)
	}
	l = whole(4, 2, 2, 4, 4, 4, 2, 2, 4)
	for width := 4; width <= 12; width++ {
		got, e := Fill(l, width)
		want, _ := model(l, width)
		if e != api.OK || !equalCerts(got, want) {
			test.Errorf("P11.1: width %d: Fill is %v %d, want %v", width, got, e, want)
		}
	}
}

func TestP11_1Model(test *testing.T) {
	r := rand.New(rand.NewSource(111))
	wide, ties := 0, 0
	for range 6000 {
		l := anyWords(r, r.Intn(6), 1+r.Intn(3), 1+r.Intn(7))
		width := 1 + r.Intn(10)
		got, e := Fill(l, width)
		want, wantE := model(l, width)
		if e != wantE || !equalCerts(got, want) {
			test.Fatalf("P11.1: Fill(%v, %d) is %v %d, want %v %d", l, width, got, e, want, wantE)
		}
		if e == api.ErrWide {
			wide++
			continue
		}
		equal := 0
		for _, ends := range divisions(l, width, 0) {
			if costOf(l, width, [2]int{}, ends) == costOf(l, width, [2]int{}, got.Ends) {
				equal++
			}
		}
		if equal > 1 {
			ties++
		}
	}
	if wide < 200 || ties < 100 {
		test.Errorf("P11.1: only %d texts without a division, %d with several best ones", wide, ties)
	}
}

func TestP11_1Long(test *testing.T) {
	r := rand.New(rand.NewSource(112))
	for range 120 {
		l := anyWords(r, 1+r.Intn(40), 1+r.Intn(16), 1+r.Intn(20))
		width := 10 + r.Intn(50)
		got, e := Fill(l, width)
		want, wantE := longModel(l, width)
		if e != wantE || !equalCerts(got, want) {
			test.Fatalf("P11.1: Fill(%v, %d) is %v %d, want %v %d", l, width, got, e, want, wantE)
		}
	}
}

// As many lines and as great squares as possible: each piece fits alone, no two of them together.
func TestP11_1Most(test *testing.T) {
	l := make([]Word, 512)
	for i := range l {
		l[i] = Word{make([][]int, 16)}
		for k := range l[i].Widths {
			l[i].Widths[k] = slices.Repeat([]int{4096}, 16-k)
			l[i].Widths[k][0] = 0
		}
	}
	got, e := Fill(l, 512)
	if e != api.OK || len(got.Ends) != 512*15+1 {
		test.Fatalf("P11.1: %d lines, %d", len(got.Ends), e)
	}
	// Each line but the last one ends with a hyphen; in 511 of them the last piece of a word and a blank are before it.
	squares := (512*14+1)*511*511 + 511*510*510
	if cost := got.Least[0][0]; cost != len(got.Ends)*line+squares || squares >= line {
		test.Errorf("P11.1: the cost is %d lines and %d, want %d", cost/line, cost%line, squares)
	}
	if e := Check(l, 512, got); e != api.OK {
		test.Errorf("P11.2: Check is %d", e)
	}
	got.Least[511][3]++
	if e := Check(l, 512, got); e != api.ErrProof {
		test.Errorf("P11.2: Check is %d", e)
	}
}

func TestP11_1FarEnd(test *testing.T) {
	l := whole(make([]int, 512)...)
	got, e := Fill(l, 511)
	if e != api.OK || !slices.Equal(got.Ends, [][2]int{{512, 0}}) {
		test.Errorf("P11.1: Fill of 512 empty words is %v %d", got.Ends, e)
	}
	got, e = Fill(l, 510)
	if e != api.OK || !slices.Equal(got.Ends, [][2]int{{511, 0}, {512, 0}}) || got.Least[0][0] != 2*line {
		test.Errorf("P11.1: Fill of 512 empty words is %v %d", got.Ends, e)
	}
}

// badWords are lists of words that are not valid.
func badWords() [][]Word {
	deep := pieces(slices.Repeat([]int{1}, 17)...)
	return [][]Word{
		{{}},
		{{[][]int{}}},
		{{[][]int{{}}}},
		{{[][]int{nil}}},
		{{[][]int{{1, 2}}}},
		{{[][]int{{1, 2}, {}}}},
		{{[][]int{{1}, {1}}}},
		{{[][]int{{1, 2}, {1, 2}}}},
		{{[][]int{{1, 2, 3}, {1}, {1}}}},
		{{[][]int{{1, 2, 3}, {1, 2}}}},
		{{[][]int{{-1}}}},
		{{[][]int{{4097}}}},
		{{[][]int{{minInt}}}},
		{{[][]int{{maxInt}}}},
		{{[][]int{{1, 2}, {-1}}}},
		{{[][]int{{1, 4097}, {1}}}},
		{deep},
		append(whole(1, 2, 3), Word{}),
		append(whole(1, 2, 3), Word{[][]int{{4097}}}),
		whole(make([]int, 513)...),
		append([]Word{{}}, whole(1)...),
	}
}

func TestP11_1Invalid(test *testing.T) {
	for i, l := range badWords() {
		for _, width := range []int{-1, 0, 1, 40, 512, 513} {
			if got, e := Fill(l, width); e != api.ErrArg || !equalCerts(got, Cert{}) {
				test.Errorf("P11.1: words %d, width %d: Fill is %v %d", i, width, got, e)
			}
			if e := Check(l, width, Cert{}); e != api.ErrArg {
				test.Errorf("P11.2: words %d, width %d: Check is %d", i, width, e)
			}
		}
	}
	for _, width := range []int{minInt, -1, 0, 513, maxInt} {
		for _, l := range [][]Word{nil, whole(1), whole(600)} {
			if got, e := Fill(l, width); e != api.ErrArg || !equalCerts(got, Cert{}) {
				test.Errorf("P11.1: width %d: Fill is %v %d", width, got, e)
			}
			if e := Check(l, width, Cert{}); e != api.ErrArg {
				test.Errorf("P11.2: width %d: Check is %d", width, e)
			}
		}
	}
}

func TestP11_1Limits(test *testing.T) {
	many := whole(slices.Repeat([]int{512}, 512)...)
	got, e := Fill(many, 512)
	if e != api.OK || len(got.Ends) != 512 || got.Least[0][0] != 512*line {
		test.Errorf("P11.1: 512 words: %d lines, %d", len(got.Ends), e)
	}
	deep := []Word{pieces(slices.Repeat([]int{1}, 16)...)}
	got, e = Fill(deep, 2)
	if e != api.OK || len(got.Ends) != 15 || got.Least[0][0] != 15*line {
		test.Errorf("P11.1: 16 pieces: %v %d", got, e)
	}
	far := []Word{{[][]int{{1, 4096}, {1}}}}
	got, e = Fill(far, 2)
	if e != api.OK || !equalCerts(got, Cert{[][2]int{{0, 1}, {1, 0}}, [][]int{{2 * line, line}}}) {
		test.Errorf("P11.1: a width of 4096: %v %d", got, e)
	}
}

func TestP11_2Examples(test *testing.T) {
	l := whole(3, 2, 5)
	good := Cert{[][2]int{{1, 0}, {2, 0}, {3, 0}}, [][]int{{3*line + 13}, {2*line + 9}, {line}}}
	if e := Check(l, 5, good); e != api.OK {
		test.Errorf("P11.2: Check is %d", e)
	}
	for i, c := range []Cert{
		{},
		{good.Ends, nil},
		{nil, good.Least},
		{good.Ends[:2], good.Least},
		{good.Ends[1:], good.Least},
		{good.Ends, good.Least[:2]},
		{good.Ends, append(copiedRows(good.Least), nil)},
		{good.Ends, append(copiedRows(good.Least), []int{0})},
		{append(slices.Clone(good.Ends), [2]int{3, 0}), good.Least},
		{append(slices.Clone(good.Ends), [2]int{4, 0}), good.Least},
		{[][2]int{{2, 0}, {3, 0}}, good.Least},
		{[][2]int{{0, 1}, {2, 0}, {3, 0}}, good.Least},
		{[][2]int{{1, 0}, {1, 0}, {3, 0}}, good.Least},
		{[][2]int{{1, 0}, {1, 0}, {2, 0}, {3, 0}}, good.Least},
		{[][2]int{{1, 0}, {1, 1}, {3, 0}}, good.Least},
		{[][2]int{{1, 0}, {2, 0}, {2, 1}}, good.Least},
		{[][2]int{{1, 0}, {2, 0}, {3, 1}}, good.Least},
		{[][2]int{{1, 0}, {2, 0}, {3, -1}}, good.Least},
		{[][2]int{{1, 0}, {2, 0}, {maxInt, 0}}, good.Least},
		{[][2]int{{1, 0}, {2, 0}, {minInt, minInt}}, good.Least},
		{[][2]int{{0, 0}, {1, 0}, {2, 0}, {3, 0}}, good.Least},
		{[][2]int{{2, 0}, {1, 0}, {3, 0}}, good.Least},
		{good.Ends, [][]int{{3*line + 13}, {2*line + 9}, nil}},
		{good.Ends, [][]int{{3*line + 13}, {2*line + 9, line}, {line}}},
		{good.Ends, [][]int{{3*line + 13, 2*line + 9, line}}},
		{good.Ends, [][]int{{3*line + 14}, {2*line + 9}, {line}}},
		{good.Ends, [][]int{{-1}, {-1}, {-1}}},
		{good.Ends, [][]int{{0}, {0}, {0}}},
		{good.Ends, [][]int{{3*line + 14}, {2*line + 10}, {line + 1}}},
		{good.Ends, [][]int{{maxInt}, {maxInt}, {maxInt}}},
		{good.Ends, [][]int{{minInt}, {minInt}, {minInt}}},
	} {
		if e := Check(l, 5, c); e != api.ErrProof {
			test.Errorf("P11.2: case %d: Check of %v is %d", i, c, e)
		}
	}
}

func TestP11_2NoWords(test *testing.T) {
	if e := Check(nil, 1, Cert{}); e != api.OK {
		test.Errorf("P11.2: Check is %d", e)
	}
	if e := Check([]Word{}, 512, Cert{[][2]int{}, [][]int{}}); e != api.OK {
		test.Errorf("P11.2: Check is %d", e)
	}
	for _, c := range []Cert{{[][2]int{{0, 0}}, nil}, {[][2]int{{1, 0}}, nil}, {nil, [][]int{nil}}, {nil, [][]int{{0}}}} {
		if e := Check(nil, 1, c); e != api.ErrProof {
			test.Errorf("P11.2: Check of %v is %d", c, e)
		}
	}
}

// Without a division nothing is a proof, also not the right costs.
func TestP11_2Wide(test *testing.T) {
	for _, c := range []Cert{{}, {nil, [][]int{{-1}, {line}}}, {[][2]int{{2, 0}}, [][]int{{-1}, {line}}}, {[][2]int{{1, 0}, {2, 0}}, [][]int{{-1}, {line}}}, {[][2]int{{1, 0}, {2, 0}}, [][]int{{2 * line}, {line}}}} {
		if e := Check(whole(3, 1), 2, c); e != api.ErrProof {
			test.Errorf("P11.2: Check of %v is %d", c, e)
		}
		if e := Check(whole(1, 3), 2, Cert{c.Ends, [][]int{{-1}, {-1}}}); e != api.ErrProof {
			test.Errorf("P11.2: Check of %v is %d", c, e)
		}
	}
	// The first line is full and leads to a place from which nothing leads on.
	if e := Check([]Word{pieces(1, 3)}, 2, Cert{[][2]int{{0, 1}}, [][]int{{-1, -1}}}); e != api.ErrProof {
		test.Errorf("P11.2: Check is %d", e)
	}
}

// Check accepts each division with the least cost, and no other list of ends.
func TestP11_2Model(test *testing.T) {
	r := rand.New(rand.NewSource(113))
	others, worse := 0, 0
	for range 1500 {
		l := anyWords(r, r.Intn(6), 1+r.Intn(3), 1+r.Intn(4))
		width := 1 + r.Intn(7)
		want, e := model(l, width)
		if e != api.OK {
			continue
		}
		for _, ends := range divisions(l, width, 0) {
			best := costOf(l, width, [2]int{}, ends) == costOf(l, width, [2]int{}, want.Ends)
			if got := Check(l, width, Cert{ends, want.Least}); (got == api.OK) != best || got != api.OK && got != api.ErrProof {
				test.Fatalf("P11.2: Check(%v, %d) of %v is %d", l, width, ends, got)
			}
			if !best {
				worse++
			} else if !slices.Equal(ends, want.Ends) {
				others++
			}
		}
		refuseOtherEnds(test, r, l, width, want)
	}
	if others < 30 || worse < 1000 {
		test.Errorf("P11.2: only %d other best divisions and %d worse ones", others, worse)
	}
}

// refuseOtherEnds changes ends at random, and lets Check find those that are no division with the least cost.
func refuseOtherEnds(test *testing.T, r *rand.Rand, l []Word, width int, c Cert) {
	places := allPlaces(l)
	isDivision := func(ends [][2]int) bool {
		return slices.ContainsFunc(divisions(l, width, 0), func(d [][2]int) bool { return slices.Equal(d, ends) })
	}
	for range 6 {
		changed := copiedCert(c)
		for i := range changed.Ends {
			if r.Intn(2) == 0 {
				changed.Ends[i] = places[r.Intn(len(places))]
			}
			if r.Intn(6) == 0 {
				changed.Ends[i][r.Intn(2)] += r.Intn(3) - 1
			}
		}
		want := api.ErrProof
		if isDivision(changed.Ends) && costOf(l, width, [2]int{}, changed.Ends) == costOf(l, width, [2]int{}, c.Ends) {
			want = api.OK
		}
		if got := Check(l, width, changed); got != want {
			test.Fatalf("P11.2: Check(%v, %d) of %v is %d, want %d", l, width, changed, got, want)
		}
	}
}

func TestP11_5Accepted(test *testing.T) {
	r := rand.New(rand.NewSource(114))
	for range 400 {
		l := anyWords(r, r.Intn(12), 1+r.Intn(6), 1+r.Intn(12))
		width := 5 + r.Intn(20)
		c, e := Fill(l, width)
		if e != api.OK {
			continue
		}
		if e := Check(l, width, c); e != api.OK {
			test.Fatalf("P11.5: Check(%v, %d) of %v is %d", l, width, c, e)
		}
		for w, row := range c.Least {
			for i, cost := range row {
				for _, other := range []int{cost + 1, cost - 1, -1, 0, -2, cost + line, cost - line, line, minInt, maxInt} {
					changed := copiedCert(c)
					changed.Least[w][i] = other
					if e := Check(l, width, changed); other != cost && e != api.ErrProof {
						test.Fatalf("P11.5: Check(%v, %d) with %d for %d at %d %d is %d", l, width, other, cost, w, i, e)
					}
				}
			}
		}
	}
}

// If all costs are greater by as much as a false last line would be, they are refused, too.
func TestP11_5Shifted(test *testing.T) {
	r := rand.New(rand.NewSource(115))
	for range 200 {
		l := anyWords(r, 1+r.Intn(8), 1+r.Intn(3), 6)
		c, e := Fill(l, 8)
		if e != api.OK {
			continue
		}
		for _, shift := range []int{1, -1, line, -line} {
			changed := copiedCert(c)
			for _, row := range changed.Least {
				for i := range row {
					if row[i] != -1 {
						row[i] += shift
					}
				}
			}
			if e := Check(l, 8, changed); e != api.ErrProof {
				test.Fatalf("P11.5: Check(%v) of %v is %d", l, changed, e)
			}
		}
	}
}

func TestP11_6Wider(test *testing.T) {
	r := rand.New(rand.NewSource(116))
	for range 300 {
		l := anyWords(r, 1+r.Intn(14), 1+r.Intn(5), 1+r.Intn(10))
		before := maxInt
		for width := 1; width <= 40; width++ {
			c, e := Fill(l, width)
			if e != api.OK && before < maxInt {
				test.Fatalf("P11.6: Fill(%v, %d) is %d, though a lesser width suffices", l, width, e)
			}
			if e != api.OK {
				continue
			}
			if len(c.Ends) > before {
				test.Fatalf("P11.6: Fill(%v, %d) has more lines than with a lesser width", l, width)
			}
			before = len(c.Ends)
		}
	}
}

func TestP11_6First(test *testing.T) {
	r := rand.New(rand.NewSource(117))
	for range 500 {
		l := anyWords(r, 1+r.Intn(14), 1+r.Intn(5), 1+r.Intn(10))
		width := 4 + r.Intn(20)
		all, e := Fill(l, width)
		if e != api.OK {
			continue
		}
		for count := range l {
			first, e := Fill(l[:count], width)
			if e != api.OK || len(first.Ends) > len(all.Ends) {
				test.Fatalf("P11.6: Fill(%v, %d) of the first %d words has %d lines, %d; of all %d", l, width, count, len(first.Ends), e, len(all.Ends))
			}
		}
	}
}

func TestP11_7Points(test *testing.T) {
	r := rand.New(rand.NewSource(118))
	for range 500 {
		l := anyWords(r, 1+r.Intn(10), 2+r.Intn(6), 1+r.Intn(8))
		width := 4 + r.Intn(16)
		all, e := Fill(l, width)
		for w, word := range l {
			if len(word.Widths) == 1 {
				continue
			}
			fewer := slices.Clone(l)
			fewer[w] = joined(word, 1+r.Intn(len(word.Widths)-1))
			got, gotE := Fill(fewer, width)
			if e == api.ErrWide && gotE == api.OK {
				test.Fatalf("P11.7: Fill(%v, %d) is OK, with one more point it is not", fewer, width)
			}
			if gotE == api.OK && got.Least[0][0] < all.Least[0][0] {
				test.Fatalf("P11.7: Fill(%v, %d) costs less than with one more point", fewer, width)
			}
		}
	}
}

func TestP11_7Greedy(test *testing.T) {
	r := rand.New(rand.NewSource(119))
	for range 1000 {
		width := 1 + r.Intn(30)
		l := anyWords(r, 1+r.Intn(60), 1, width)
		lines, used := 1, l[0].Widths[0][0]
		for _, word := range l[1:] {
			if used += 1 + word.Widths[0][0]; used > width {
				lines++
				used = word.Widths[0][0]
			}
		}
		if c, e := Fill(l, width); e != api.OK || len(c.Ends) != lines {
			test.Fatalf("P11.7: Fill(%v, %d) has %d lines, %d, want %d", l, width, len(c.Ends), e, lines)
		}
	}
}

func TestP1EqualCalls(test *testing.T) {
	r := rand.New(rand.NewSource(120))
	for range 100 {
		l := anyWords(r, 1+r.Intn(10), 3, 6)
		before := copiedWords(l)
		c, e := Fill(l, 12)
		kept := copiedCert(c)
		again, againE := Fill(l, 12)
		if e != againE || !equalCerts(c, again) {
			test.Fatalf("P1: two calls of Fill(%v) differ", l)
		}
		Check(l, 12, c)
		if !equalCerts(c, kept) || !slices.EqualFunc(l, before, func(a, b Word) bool {
			return slices.EqualFunc(a.Widths, b.Widths, slices.Equal[[]int])
		}) {
			test.Fatalf("P1: the arguments of Fill or Check changed")
		}
		for _, row := range again.Least {
			for i := range row {
				row[i] = 7
			}
			_ = append(row, 7)
		}
		if !equalCerts(c, kept) {
			test.Fatalf("P1: results of Fill share memory")
		}
	}
}

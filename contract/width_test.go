package contract

import (
	"math"
	"math/rand"
	"slices"
	"strings"
	"testing"

	"dactyl/api"
)

// widthsModel returns the widths, each by a translation.
func widthsModel(t api.Tables, l []api.Sym, points []int) ([][]int, api.Errno) {
	bounds := slices.Concat([]int{0}, points, []int{len(l)})
	var all [][]int
	for i, p := range bounds[:len(bounds)-1] {
		var n []int
		for _, q := range bounds[i+1:] {
			c, e := Translate(t, l[p:q])
			if e != api.OK {
				return nil, api.ErrNone
			}
			n = append(n, len(c.Cells))
		}
		all = append(all, n)
	}
	return all, api.OK
}

// expectWidths checks what Width returns.
func expectWidths(test *testing.T, t api.Tables, l []api.Sym, points []int, want [][]int, wantE api.Errno) {
	test.Helper()
	got, e := Width(t, l, points)
	if e != wantE || !slices.EqualFunc(got, want, slices.Equal) {
		test.Errorf("P8.4: Width of %v at %v with %v is %v and %d, not %v and %d", l, points, t, got, e, want, wantE)
	}
}

func TestP8_4Examples(test *testing.T) {
	hand := write("hand")
	expectWidths(test, example(), hand, []int{2}, [][]int{{2, 2}, {2}}, api.OK)
	expectWidths(test, example(), hand, nil, [][]int{{2}}, api.OK)
	expectWidths(test, example(), hand, []int{1, 2, 3}, [][]int{{1, 2, 2, 2}, {1, 1, 1}, {1, 2}, {1}}, api.OK)
	expectWidths(test, example(), write("x"), nil, [][]int{{1}}, api.OK)
	expectWidths(test, example(), nil, nil, nil, api.OK)
	expectWidths(test, example(), []api.Sym{}, []int{}, nil, api.OK)
}

// TestP8_4Contexts checks that pieces are texts of their own.
func TestP8_4Contexts(test *testing.T) {
	t := plain(rule("but", api.Word, 30), rule("bu", api.Start, 31), rule("ut", api.Inner, 32), rule(".", api.Any, 33))
	t.Switch, t.Num = []byte{63, 1}, []byte{61, 1}
	for _, c := range []struct {
		text   string
		points []int
		want   [][]int
	}{
		{"butter", []int{3}, [][]int{{1, 5}, {3}}},
		{"butter", []int{2}, [][]int{{2, 5}, {4}}},
		{"abut", []int{1}, [][]int{{1, 3}, {1}}},
		{"abut", []int{2}, [][]int{{2, 3}, {2}}},
		{"12", []int{1}, [][]int{{3, 4}, {3}}},
		{"1a", []int{1}, [][]int{{3, 5}, {1}}},
		{"1A.", []int{1, 2}, [][]int{{3, 6, 7}, {2, 3}, {1}}},
		{"|a1", []int{1}, [][]int{{3, 6}, {5}}},
		{"a|b|c", []int{1, 2}, [][]int{{1, 4, 7}, {3, 6}, {1}}},
		{"|a|but", []int{1}, [][]int{{3, 6}, {1}}},
	} {
		expectWidths(test, t, write(c.text), c.points, c.want, api.OK)
	}
}

func TestP8_4Errors(test *testing.T) {
	t, hand := example(), write("hand")
	for _, points := range [][]int{{0}, {4}, {5}, {-1}, {1, 1}, {2, 1}, {1, 2, 3, 4}, {0, 1}, {1, 2, 2}, {math.MinInt}, {math.MaxInt}, {1, math.MinInt}, {3, math.MaxInt}} {
		expectWidths(test, t, hand, points, nil, api.ErrArg)
		expectWidths(test, t, write("ha?d"), points, nil, api.ErrArg)
	}
	for _, points := range [][]int{{0}, {1}, {-1}} {
		expectWidths(test, t, nil, points, nil, api.ErrArg)
	}
	expectWidths(test, t, write("x"), []int{1}, nil, api.ErrArg)
	for _, s := range []string{"ha?d", "?and", "han?", "ha|.|d"} {
		for _, points := range [][]int{nil, {2}, {1, 2, 3}} {
			expectWidths(test, t, write(s), points, nil, api.ErrNone)
		}
	}
}

func TestP8_4Model(test *testing.T) {
	r := rand.New(rand.NewSource(84))
	none := 0
	for range 250 {
		t := anyTables(r, api.MaxRules)
		l := anyText(r, 16, []string{"aaabbb", "aaaaaaaaaaaab", "aaabbbAz12 .", "aaabbAB1"}[r.Intn(4)])
		for _, points := range [][]int{nil, anyPoints(r, len(l))} {
			if len(l) == 0 {
				continue
			}
			want, e := widthsModel(t, l, points)
			if e == api.ErrNone {
				none++
			}
			expectWidths(test, t, l, points, want, e)
		}
	}
	if none < 20 {
		test.Errorf("%d texts have no translation: too few to compare", none)
	}
}

// TestP8_4Limit divides the longest texts at all places.
func TestP8_4Limit(test *testing.T) {
	t := plain(rule("aaaaaaaa", api.Any, 30), rule("aaaaaaaa", api.Word, 31))
	l := write(strings.Repeat("a", api.MaxSyms))
	var points []int
	for p := 1; p < len(l); p++ {
		points = append(points, p)
	}
	got, e := Width(t, l, points)
	if e != api.OK || len(got) != len(l) {
		test.Fatalf("P8.4: Width of a text of %d pieces is %d, with %d lists", len(l), e, len(got))
	}
	for i, n := range got {
		if len(n) != len(l)-i {
			test.Fatalf("P8.4: the list %d has %d elements", i, len(n))
		}
		for k, cells := range n {
			if want := (k+1)/8 + (k+1)%8; cells != want {
				test.Fatalf("P8.4: %d letters need %d cells, not %d", k+1, cells, want)
			}
		}
	}
	expectWidths(test, t, append(l, l[0]), points, nil, api.ErrLimit)
}

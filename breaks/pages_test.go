package breaks

import (
	"math/rand"
	"slices"
	"testing"

	"dactyl/api"
)

// kept returns keep, by a mark for each line.
func kept(marks string) []bool {
	var keep []bool
	for _, mark := range marks {
		keep = append(keep, mark == 'x')
	}
	return keep
}

func TestP11_3Examples(test *testing.T) {
	for i, c := range []struct {
		marks string
		lines int
		want  []int
		e     api.Errno
	}{
		{"", 1, nil, api.OK},
		{"", 1000, nil, api.OK},
		{".", 1, []int{0}, api.OK},
		{"x", 1, []int{0}, api.OK},
		{"xx", 1, nil, api.ErrWide},
		{"x.", 1, []int{0, 1}, api.OK},
		{"xx", 2, []int{0}, api.OK},
		{"...", 1, []int{0, 1, 2}, api.OK},
		{"...", 2, []int{0, 2}, api.OK},
		{"...", 3, []int{0}, api.OK},
		{"...", 4, []int{0}, api.OK},
		{"..x.", 2, []int{0, 1, 3}, api.OK},
		{"..xx", 2, nil, api.ErrWide},
		{"..xx", 3, []int{0, 1}, api.OK},
		{".xx.", 3, []int{0, 3}, api.OK},
		{".xx.", 2, nil, api.ErrWide},
		{"....x.", 2, []int{0, 2, 3, 5}, api.OK},
		{"......", 4, []int{0, 4}, api.OK},
		{"....xx", 4, []int{0, 3}, api.OK},
		{"xxx.xxx.", 4, []int{0, 3, 7}, api.OK},
		{"xxx.xxxx", 4, nil, api.ErrWide},
		{".....xxx", 3, nil, api.ErrWide},
		{".....xx.", 3, []int{0, 3, 4, 7}, api.OK},
	} {
		got, e := Pages(kept(c.marks), c.lines)
		if e != c.e || !slices.Equal(got, c.want) {
			test.Errorf("P11.3: case %d: Pages(%q, %d) is %v %d", i, c.marks, c.lines, got, e)
		}
	}
}

func TestP11_3Invalid(test *testing.T) {
	for _, lines := range []int{minInt, -1, 0, 1001, maxInt} {
		for _, keep := range [][]bool{nil, {false}, {true, true}, make([]bool, 4097)} {
			if got, e := Pages(keep, lines); e != api.ErrArg || len(got) > 0 {
				test.Errorf("P11.3: Pages of %d lines, %d on a page is %v %d", len(keep), lines, got, e)
			}
			if e := Paged(keep, lines, nil); e != api.ErrArg {
				test.Errorf("P11.4: Paged of %d lines, %d on a page is %d", len(keep), lines, e)
			}
		}
	}
	for _, lines := range []int{1, 25, 1000} {
		if got, e := Pages(make([]bool, 4097), lines); e != api.ErrArg || len(got) > 0 {
			test.Errorf("P11.3: Pages of 4097 lines is %v %d", got, e)
		}
		if got, e := Pages(slices.Repeat([]bool{true}, 4097), lines); e != api.ErrArg || len(got) > 0 {
			test.Errorf("P11.3: Pages of 4097 lines is %v %d", got, e)
		}
		if e := Paged(make([]bool, 4097), lines, []int{0}); e != api.ErrArg {
			test.Errorf("P11.4: Paged of 4097 lines is %d", e)
		}
	}
}

func TestP11_3Limits(test *testing.T) {
	got, e := Pages(make([]bool, 4096), 1000)
	if e != api.OK || !slices.Equal(got, []int{0, 1000, 2000, 3000, 4000}) {
		test.Errorf("P11.3: Pages is %v %d", got, e)
	}
	got, e = Pages(make([]bool, 4096), 1)
	if e != api.OK || len(got) != 4096 || got[4095] != 4095 {
		test.Errorf("P11.3: %d pages, %d", len(got), e)
	}
	keep := slices.Repeat([]bool{true}, 4096)
	for i := 0; i < 4096; i += 1000 {
		keep[i] = false
	}
	got, e = Pages(keep, 1000)
	if e != api.OK || !slices.Equal(got, []int{0, 1000, 2000, 3000, 4000}) {
		test.Errorf("P11.3: Pages is %v %d", got, e)
	}
	if got, e = Pages(keep, 999); e != api.ErrWide || len(got) > 0 {
		test.Errorf("P11.3: Pages is %v %d", got, e)
	}
}

func TestP11_3Model(test *testing.T) {
	r := rand.New(rand.NewSource(121))
	wide := 0
	for range 3000 {
		keep := anyKeep(r, r.Intn(11), r.Intn(10))
		lines := 1 + r.Intn(6)
		got, e := Pages(keep, lines)
		want, wantE := pagesModel(keep, lines)
		if e != wantE || !slices.Equal(got, want) {
			test.Fatalf("P11.3: Pages(%v, %d) is %v %d, want %v %d", keep, lines, got, e, want, wantE)
		}
		if e == api.ErrWide {
			wide++
		}
	}
	if wide < 300 {
		test.Errorf("P11.3: only %d lists without pages", wide)
	}
}

func TestP11_4Examples(test *testing.T) {
	for i, c := range []struct {
		marks string
		lines int
		l     []int
		want  api.Errno
	}{
		{"", 3, nil, api.OK},
		{"", 3, []int{}, api.OK},
		{"", 3, []int{0}, api.ErrProof},
		{".", 3, nil, api.ErrProof},
		{".", 3, []int{0}, api.OK},
		{".", 3, []int{1}, api.ErrProof},
		{".", 3, []int{-1}, api.ErrProof},
		{".", 3, []int{0, 0}, api.ErrProof},
		{".....", 3, []int{0, 3}, api.OK},
		{".....", 3, []int{0, 2}, api.OK},
		{".....", 3, []int{0, 1}, api.ErrProof},
		{".....", 3, []int{0, 4}, api.ErrProof},
		{".....", 3, []int{1, 3}, api.ErrProof},
		{".....", 3, []int{3, 0}, api.ErrProof},
		{".....", 3, []int{2, 2}, api.ErrProof},
		{".....", 3, []int{0, 0}, api.ErrProof},
		{".....", 3, []int{0, 5}, api.ErrProof},
		{".....", 3, []int{0, 2, 4}, api.ErrProof},
		{".....", 3, []int{0, 3, 5}, api.ErrProof},
		{".....", 3, []int{0}, api.ErrProof},
		{".....", 3, []int{0, maxInt}, api.ErrProof},
		{".....", 3, []int{0, minInt}, api.ErrProof},
		{".....", 3, []int{minInt, 2}, api.ErrProof},
		{"...x.", 3, []int{0, 3}, api.ErrProof},
		{"...x.", 3, []int{0, 2}, api.OK},
		{"x..x.", 3, []int{0, 2}, api.OK},
		{".xxx.", 3, []int{0, 3}, api.ErrWide},
		{".xxx.", 3, nil, api.ErrWide},
		{"...", 1, []int{0, 1, 2}, api.OK},
		{"...", 1, []int{0, 1, 3}, api.ErrProof},
		{"...", 1, []int{0, 1, 1}, api.ErrProof},
	} {
		if e := Paged(kept(c.marks), c.lines, c.l); e != c.want {
			test.Errorf("P11.4: case %d: Paged(%q, %d, %v) is %d, want %d", i, c.marks, c.lines, c.l, e, c.want)
		}
	}
}

// Paged accepts the lists of the model with the fewest pages, and no others.
func TestP11_4Model(test *testing.T) {
	r := rand.New(rand.NewSource(122))
	several := 0
	for range 600 {
		keep := anyKeep(r, 1+r.Intn(8), r.Intn(7))
		lines := 1 + r.Intn(5)
		best, e := pagesModel(keep, lines)
		good := 0
		for set := range 1 << (len(keep) + 1) {
			var l []int
			for i := range len(keep) + 1 {
				if set>>i&1 == 1 {
					l = append(l, i)
				}
			}
			want := api.ErrProof
			if e != api.OK {
				want = e
			} else if fits(keep, lines, l) && len(l) == len(best) {
				want = api.OK
				good++
			}
			if got := Paged(keep, lines, l); got != want {
				test.Fatalf("P11.4: Paged(%v, %d, %v) is %d, want %d", keep, lines, l, got, want)
			}
		}
		if good > 1 {
			several++
		}
	}
	if several < 100 {
		test.Errorf("P11.4: only %d times several best lists", several)
	}
}

func TestP11_4AnyLists(test *testing.T) {
	r := rand.New(rand.NewSource(123))
	for range 20000 {
		keep := anyKeep(r, r.Intn(6), r.Intn(5))
		lines := 1 + r.Intn(4)
		l := make([]int, r.Intn(5))
		for i := range l {
			l[i] = r.Intn(9) - 2
		}
		best, e := pagesModel(keep, lines)
		want := api.ErrProof
		if e != api.OK {
			want = e
		} else if slices.IsSorted(l) && fits(keep, lines, l) && len(l) == len(best) {
			want = api.OK
		}
		if got := Paged(keep, lines, l); got != want {
			test.Fatalf("P11.4: Paged(%v, %d, %v) is %d, want %d", keep, lines, l, got, want)
		}
	}
}

func TestP11_8Pages(test *testing.T) {
	r := rand.New(rand.NewSource(124))
	for range 500 {
		count, lines := r.Intn(200), 1+r.Intn(30)
		if l, e := Pages(make([]bool, count), lines); e != api.OK || len(l) != (count+lines-1)/lines {
			test.Fatalf("P11.8: %d lines, %d on a page: %v %d", count, lines, l, e)
		}
		keep := anyKeep(r, count, r.Intn(9))
		before := 0
		for _, i := range r.Perm(count) {
			l, e := Pages(keep, lines)
			if e == api.ErrWide && before == maxInt {
				break
			}
			if e == api.ErrWide {
				before = maxInt
			} else if paged := Paged(keep, lines, l); paged != api.OK || len(l) < before {
				test.Fatalf("P11.8: Pages(%v, %d) is %v, Paged %d; there were %d pages", keep, lines, l, paged, before)
			} else {
				before = len(l)
			}
			keep[i] = true
		}
	}
}

func TestP1EqualPages(test *testing.T) {
	r := rand.New(rand.NewSource(125))
	for range 200 {
		keep := anyKeep(r, r.Intn(60), r.Intn(5))
		before := slices.Clone(keep)
		l, e := Pages(keep, 7)
		again, againE := Pages(keep, 7)
		given := slices.Clone(l)
		Paged(keep, 7, given)
		if e != againE || !slices.Equal(l, again) || !slices.Equal(keep, before) || !slices.Equal(given, l) {
			test.Fatalf("P1: Pages(%v) differs, or an argument changed", before)
		}
		for i := range again {
			again[i] = -1
		}
		if !slices.Equal(given, l) {
			test.Fatalf("P1: results of Pages share memory")
		}
	}
}

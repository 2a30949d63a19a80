package admit

import (
	"fmt"
	"math"
	"math/rand"
	"reflect"
	"slices"
	"testing"

	"dactyl/api"
	"dactyl/table"
)

// compare checks that Check says of pairs what the model says, and returns whether they are a proof.
func compare(test *testing.T, what string, t api.Tables, m model, l [][]int) bool {
	test.Helper()
	right, want := m.right(l), api.ErrProof
	if right {
		want = api.OK
	}
	if e := Check(t, Proof{l}); e != want {
		test.Fatalf("P7.2: Check of %s is %d, not %d: %v", what, e, want, l)
	}
	return right
}

// dead returns tables in which the rest after the writers 3 and 4 never comes to an end: 27 is but, or the beginning of a word with bu.
func dead() api.Tables {
	return plain(rule("but", api.Word, 27), rule("bu", api.Start, 27))
}

// closed returns pairs and all that has to be covered besides. Of what is not covered, choose adds what covers it.
func closed(m model, l [][]int, choose func(p []int) []int) [][]int {
	l = slices.Clone(l)
	known := map[string]bool{}
	for _, p := range l {
		known[fmt.Sprint(p)] = true
	}
	has := func(p []int) bool { return known[fmt.Sprint(p)] || known[fmt.Sprint(unknown(p))] }
	for i := 0; i < len(l) && len(l) < 6000; i++ {
		for _, p := range m.successors(l[i]) {
			if !has(p) && !(p[3] == 0 && has(exchange(p))) {
				l = append(l, choose(p))
				known[fmt.Sprint(l[len(l)-1])] = true
			}
		}
	}
	return l
}

// endless returns the situations of a proof whose pairs have the kind 2.
func endless(p Proof) map[string]bool {
	l := map[string]bool{}
	for _, q := range p.Pairs {
		if q[2] == 2 {
			l[fmt.Sprint(q)] = true
		}
	}
	return l
}

func TestP7_2Invalid(test *testing.T) {
	p, _, _ := Admit(plain())
	for what, t := range invalid() {
		for _, q := range []Proof{p, {}, {Pairs: [][]int{nil}}} {
			if e := Check(t, q); e != table.Valid(t) {
				test.Errorf("P7.2: Check with %s is %d", what, e)
			}
		}
	}
	if e := Check(plain(), Proof{}); e != api.ErrProof {
		test.Errorf("P7.2: Check of no pairs is %d", e)
	}
	if e := Check(plain(rule("ab", api.Any, 3, 4)), p); e != api.ErrProof {
		test.Errorf("P7.2: Check of a proof for other tables is %d", e)
	}
}

func TestP7_2Form(test *testing.T) {
	t := plain()
	p, _, _ := Admit(t)
	for _, l := range [][]int{
		nil, {}, {0}, {0, 0, 0}, {-1, 0, 2, 1, 63}, {12, 0, 2, 1, 63}, {0, -1, 2, 1, 63}, {0, 12, 2, 1, 63}, {4, 4, 3, 1, 63}, {4, 4, -1, 1, 63}, {4, 4, 3, 1, 63, 97},
		{4, 4, 2, 1}, {4, 4, 2}, {4, 4, 2, -1}, {4, 4, 2, 2, 63}, {4, 4, 2, math.MaxInt}, {4, 4, 2, math.MinInt}, {4, 4, 2, math.MaxInt - 3}, {math.MaxInt, 4, 2, 0}, {math.MinInt, 4, 2, 0}, {6 + 1<<32, 4, 2, 0}, {4, 4, 2 + 1<<32, 0}, {4, 4, 2, 1 << 32},
		{4, 4, 2, 1, 0}, {4, 4, 2, 1, 64}, {4, 4, 2, 1, -1}, {4, 4, 2, 1, 256 + 63}, {4, 4, 2, 1, math.MinInt}, {4, 4, 2, 0, 97}, {4, 4, 2, 1, 63, 97},
		{4, 4, 1, 0}, {4, 4, 1, 1, 63}, {4, 4, 0, 1, 63, 31}, {4, 4, 0, 1, 63, 127}, {4, 4, 0, 1, 63, 128}, {4, 4, 0, 1, 63, 128 + 31}, {4, 4, 0, 1, 63, 128 + 127}, {4, 4, 0, 1, 63, 256 + 97}, {4, 4, 1, 1, 63, -97}, {4, 4, 1, 1, 63, 97, 0}, {4, 4, 0, 1, 63, 97 - 256}, {4, 4, 1, 1, 63, math.MaxInt}, {4, 4, 1, 1, 63, math.MinInt + 97},
	} {
		if e := Check(t, Proof{append(slices.Clone(p.Pairs), l)}); e != api.ErrProof {
			test.Errorf("P7.2: Check of a proof with the pair %v is %d", l, e)
		}
	}
	for _, l := range [][]int{
		{4, 4, 2, 1, 63}, {10, 10, 2, 1, 63}, {4, 11, 0, 1, 63}, {4, 4, 0, 1, 63, 32}, {4, 4, 0, 1, 63, 126}, {4, 4, 1, 1, 63, 128 + 32}, {4, 4, 1, 1, 63, 128 + 126, 97}, {4, 5, 0, 2, 63, 1},
		slices.Concat([]int{4, 5, 2, 200}, slices.Repeat([]int{63}, 200)), slices.Concat([]int{4, 5, 0, 1, 63}, slices.Repeat([]int{97}, 200)),
	} {
		// No cells of letters, which have to be next, begin with 63.
		if e := Check(t, Proof{append(slices.Clone(p.Pairs), l)}); e != api.OK {
			test.Errorf("P7.2: Check of a proof with the pair %v, which has no successors, is %d", l, e)
		}
	}
}

func TestP7_2Ends(test *testing.T) {
	t := plain()
	p, _, _ := Admit(t)
	m := modelOf(t)
	for _, w := range []int{0, 1, 2, 3, 6, 7, 8, 9} {
		for _, q := range [][]int{{w, w, 0, 0}, {w, w, 2, 0}, {w, w, 0, 0, 97}, {w, w, 1, 0, 97}} {
			l := closed(m, append(slices.Clone(p.Pairs), q), func(p []int) []int { return p })
			if right := compare(test, "a proof with one more end", t, m, l); right != (q[2] == 0 && len(q) == 4) {
				test.Errorf("P7.2: a proof with the pair %v, where both texts may end, is right: %v", q, right)
			}
		}
	}
}

// TestP7_2Exchanged has proofs that cover a level pair only with both lists exchanged.
func TestP7_2Exchanged(test *testing.T) {
	t := dead()
	m := modelOf(t)
	p, _, _ := Admit(t)
	pairs := slices.DeleteFunc(p.Pairs, func(p []int) bool { return p[3] == 0 && (p[0] == 3 && p[1] == 4 || p[0] == 4 && p[1] == 3) })
	if compare(test, "a proof without a level pair", t, m, pairs) {
		test.Fatal("the level pair is not needed")
	}
	accepted := 0
	for _, q := range [][]int{{3, 4, 2, 0}, {4, 3, 2, 0}, {3, 4, 1, 0, 't'}, {4, 3, 0, 0, 't'}, {3, 4, 0, 0, 't'}, {4, 3, 1, 0, 't'}, {4, 3, 0, 0}, {3, 4, 0, 0}} {
		l := closed(m, append(slices.Clone(pairs), q), func(p []int) []int {
			if p[3] == 0 && p[0]+p[1] == 7 && max(p[0], p[1]) == 4 {
				return slices.Clone(q)
			}
			return unknown(p)
		})
		if compare(test, fmt.Sprint("a proof with ", q), t, m, l) {
			accepted++
		}
	}
	if accepted != 4 {
		test.Errorf("P7.2: %d of the pairs make a proof, not 4", accepted)
	}
}

// TestP7_2Turned has proofs that have a pair that is not level only with both lists exchanged.
func TestP7_2Turned(test *testing.T) {
	t := dead()
	m := modelOf(t)
	p, _, _ := Admit(t)
	needed := []int{4, 11, 2, 1, 63} // bu goes on with a letter, and but with Switch
	i := slices.IndexFunc(p.Pairs, func(q []int) bool { return slices.Equal(q, needed) })
	if i < 0 {
		test.Fatal("the pair is not in the proof")
	}
	for _, q := range [][]int{{11, 4, 2, 1, 63}, {11, 4, 0, 1, 63, 't'}, {11, 4, 1, 1, 63, 't'}, {4, 11, 0, 1, 63, 't'}, {4, 11, 1, 1, 63, 't'}, {4, 11, 2, 1, 63}} {
		p.Pairs[i] = q
		if right := compare(test, fmt.Sprint("a proof with ", q), t, m, p.Pairs); right != slices.Equal(q, needed) {
			test.Errorf("P7.2: a proof with %v instead of %v is right: %v", q, needed, right)
		}
	}
}

// TestP7_2Other compares Check with the model for proofs that differ from those of Admit.
func TestP7_2Other(test *testing.T) {
	r := rand.New(rand.NewSource(721))
	right, wrong := 0, 0
	for range 60 {
		t := anyTables(r)
		if r.Intn(8) == 0 {
			t = dead()
		}
		p, _, e := Admit(t)
		if e != api.OK {
			continue
		}
		m := modelOf(t)
		hopeless := endless(p)
		l := closed(m, [][]int{{0, 0, 0, 0}}, func(p []int) []int {
			if p[3] == 0 && r.Intn(2) == 0 {
				p = exchange(p)
			}
			if hopeless[fmt.Sprint(unknown(p))] && r.Intn(8) > 0 || r.Intn(5000) == 0 {
				p = unknown(p)
			}
			return p
		})
		r.Shuffle(len(l), func(a, b int) { l[a], l[b] = l[b], l[a] })
		if compare(test, "another proof", t, m, l) {
			right++
		} else {
			wrong++
		}
	}
	if right < 5 || wrong < 1 {
		test.Errorf("%d other proofs are right, and %d are not: too few to compare", right, wrong)
	}
}

// changed returns pairs with something changed.
func changed(r *rand.Rand, l [][]int) [][]int {
	l = slices.Clone(l)
	i := r.Intn(len(l))
	p := slices.Clone(l[i])
	switch r.Intn(8) {
	case 0:
		return slices.Delete(l, i, i+1)
	case 1:
		return append(l, p)
	case 2:
		p[r.Intn(len(p))] += 1 - 2*r.Intn(2)
	case 3:
		p[r.Intn(len(p))] = []int{0, 1, 2, 3, 4, 11, 12, 63, 64, 97, 225, -1, math.MaxInt, math.MinInt}[r.Intn(14)]
	case 4:
		p = append(p, 97)
	case 5:
		p = p[:r.Intn(len(p))]
	case 6:
		p[0], p[1] = p[1], p[0]
	case 7:
		p = unknown(p)
	}
	l[i] = p
	return l
}

func TestP7_2Changed(test *testing.T) {
	r := rand.New(rand.NewSource(722))
	right, wrong := 0, 0
	for wrong < 100 {
		t := anyTables(r)
		if r.Intn(4) == 0 {
			t = dead()
		}
		p, _, e := Admit(t)
		if e != api.OK {
			continue
		}
		m := modelOf(t)
		for range 8 {
			if compare(test, "a changed proof", t, m, changed(r, p.Pairs)) {
				right++
			} else {
				wrong++
			}
		}
	}
	if right < 10 {
		test.Errorf("%d changed proofs are right: too few to compare", right)
	}
}

func TestP7_2Unchanged(test *testing.T) {
	t := dead()
	p, _, _ := Admit(t)
	before := Proof{}
	for _, q := range p.Pairs {
		before.Pairs = append(before.Pairs, slices.Clone(q))
	}
	tables := copied(t)
	if e := Check(t, p); e != api.OK || !reflect.DeepEqual(p, before) || !reflect.DeepEqual(t, tables) {
		test.Errorf("Check is %d, or changes its arguments", e)
	}
	for i, q := range p.Pairs {
		for k := range q {
			q[k] = -1 - i
		}
	}
	for i, q := range p.Pairs {
		if slices.ContainsFunc(q, func(n int) bool { return n != -1-i }) {
			test.Fatal("the pairs of a proof share memory")
		}
	}
	if again, _, _ := Admit(t); !reflect.DeepEqual(again, before) {
		test.Error("results of Admit share memory")
	}
}

// TestP7_2Many has a proof for tables with more situations than Admit takes.
func TestP7_2Many(test *testing.T) {
	t := wide()
	p, _, _ := Admit(t)
	last := len(t.Lang[0].Rules) - 1
	t.Lang[0].Rules[last].Cells = []byte{3, 40}
	if _, _, e := Admit(t); e != api.ErrLimit {
		test.Fatalf("P7.1: Admit is %d", e)
	}
	m := modelOf(t)
	l := closed(m, p.Pairs, func(p []int) []int {
		if p[3] == 1 && p[4] == 40 {
			return unknown(p) // nothing else begins with 40
		}
		return p
	})
	if e := Check(t, Proof{l}); !m.right(l) || e != api.OK {
		test.Errorf("P7.2: Check of a proof for more than 4096 situations is %d", e)
	}
}

func TestP7_4Accepted(test *testing.T) {
	r := rand.New(rand.NewSource(74))
	count := 0
	for count < 40 {
		t := anyTables(r)
		p, _, e := Admit(t)
		if e != api.OK {
			continue
		}
		count++
		if e := Check(t, p); e != api.OK {
			test.Fatalf("P7.4: Check of the proof of Admit for %v is %d", t, e)
		}
		if cells, l, found := firstShared(t, 4); found {
			test.Fatalf("P7.4: Check accepts a proof, but %v have the cells %v", l, cells)
		}
		for range 20 {
			a, b := anyText(r, 4, "aabb1.A"), anyText(r, 4, "aabb1.A")
			if order(a, b) != 0 && Twins(t, a, b) {
				test.Fatalf("P7.4: Check accepts a proof, but %v and %v are twins", a, b)
			}
		}
		without := slices.DeleteFunc(slices.Clone(p.Pairs), func(q []int) bool { return slices.Equal(unknown(q), unknown(p.Pairs[0])) })
		if e := Check(t, Proof{without}); e != api.ErrProof {
			test.Fatalf("P7.4: Check without the situation of the first pair is %d", e)
		}
	}
}

// TestP7_4Refused gives Check whatever could seem to be a proof for tables that are not unique.
func TestP7_4Refused(test *testing.T) {
	r := rand.New(rand.NewSource(744))
	for range 60 {
		t := anyTables(r)
		if _, _, e := Admit(t); e != api.ErrTwice {
			continue
		}
		m := modelOf(t)
		for _, choose := range []func(p []int) []int{func(p []int) []int { return p }, unknown} {
			l := closed(m, [][]int{{0, 0, 0, 0}}, choose)
			if compare(test, "tables that are not unique", t, m, l) {
				test.Fatalf("P7.4: there is a proof for %v", t)
			}
		}
	}
}

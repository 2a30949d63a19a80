package wire

import (
	"bytes"
	"math"
	"math/big"
	"runtime"
	"slices"
	"strings"
	"testing"

	"dactyl/api"
)

// decoded is what a decoding function returns, in a form that can be compared and encoded again.
type decoded struct {
	value any
	again []byte
	zero  bool
	used  int
	e     api.Errno
}

type decoder struct {
	name string
	call func(b []byte) decoded
}

func decoders() []decoder {
	return []decoder{
		{"GetInt", func(b []byte) decoded {
			n, used, e := GetInt(b)
			return decoded{n, Int(n), n == 0, used, e}
		}},
		{"GetBytes", func(b []byte) decoded {
			s, used, e := GetBytes(b)
			return decoded{s, Bytes(s), s == "", used, e}
		}},
		{"GetInts", func(b []byte) decoded {
			l, used, e := GetInts(b)
			return decoded{l, Ints(l), len(l) == 0, used, e}
		}},
		{"GetStrings", func(b []byte) decoded {
			l, used, e := GetStrings(b)
			return decoded{l, Strings(l), len(l) == 0, used, e}
		}},
		{"GetDigests", func(b []byte) decoded {
			l, used, e := GetDigests(b)
			return decoded{l, Digests(l), len(l) == 0, used, e}
		}},
	}
}

// refuses checks that each of the inputs yields its error, and nothing else.
func refuses(t *testing.T, promise, name string, l []refusal) {
	t.Helper()
	for _, d := range decoders() {
		if d.name != name {
			continue
		}
		for _, x := range l {
			if r := d.call(x.b); r.e != x.e || r.used != 0 || !r.zero {
				t.Errorf("%s: %s of %v: %#v, used %d, error %d instead of %d", promise, name, x.b, r.value, r.used, r.e, x.e)
			}
		}
	}
}

type refusal struct {
	b []byte
	e api.Errno
}

// numbers returns integers around all bounds of lengths, in increasing order.
func numbers() []int {
	l := []int{math.MinInt, math.MinInt + 1, math.MaxInt - 1, math.MaxInt}
	for shift := range 63 {
		for d := -2; d <= 2; d++ {
			l = append(l, 1<<shift+d, -1<<shift+d)
		}
	}
	for n := -70000; n <= 70000; n += 37 {
		l = append(l, n)
	}
	slices.Sort(l)
	return slices.Compact(l)
}

// model returns the encoding of an integer as P1.1 describes it, by arithmetic without bounds.
func model(n int) []byte {
	m := big.NewInt(int64(n))
	if n >= 0 {
		b := m.Bytes()
		return append([]byte{byte(128 + len(b))}, b...)
	}
	b := m.Sub(big.NewInt(-1), m).Bytes()
	for i := range b {
		b[i] = 255 - b[i]
	}
	return append([]byte{byte(127 - len(b))}, b...)
}

func digest(n byte) api.Digest {
	return api.Digest{0: n, 7: 255, 15: n + 1}
}

// samples returns encodings of all kinds, by the names of the functions that decode them.
func samples() map[string][][]byte {
	long := strings.Repeat("\x00\xffx", 100)
	return map[string][][]byte{
		"GetInt":     {Int(0), Int(1), Int(-1), Int(-2), Int(255), Int(256), Int(-256), Int(-257), Int(math.MaxInt), Int(math.MinInt)},
		"GetBytes":   {Bytes(""), Bytes("ab"), Bytes("\x80\x00\xff"), Bytes(long)},
		"GetInts":    {Ints(nil), Ints([]int{0}), Ints([]int{1, -1, 300, math.MinInt, math.MaxInt}), Ints(make([]int, 300))},
		"GetStrings": {Strings(nil), Strings([]string{""}), Strings([]string{"", "a", long, "\x80"}), Strings(make([]string, 300))},
		"GetDigests": {Digests(nil), Digests([]api.Digest{{}}), Digests([]api.Digest{digest(1), {}, digest(255)}), Digests(make([]api.Digest, 300))},
	}
}

func TestP1_1Int(t *testing.T) {
	for _, x := range []struct {
		n int
		b []byte
	}{
		{0, []byte{128}},
		{1, []byte{129, 1}},
		{255, []byte{129, 255}},
		{256, []byte{130, 1, 0}},
		{65535, []byte{130, 255, 255}},
		{65536, []byte{131, 1, 0, 0}},
		{-1, []byte{127}},
		{-2, []byte{126, 254}},
		{-256, []byte{126, 0}},
		{-257, []byte{125, 254, 255}},
		{0x0102030405060708, []byte{136, 1, 2, 3, 4, 5, 6, 7, 8}},
		{math.MaxInt, []byte{136, 127, 255, 255, 255, 255, 255, 255, 255}},
		{math.MinInt, []byte{119, 128, 0, 0, 0, 0, 0, 0, 0}},
	} {
		if b := Int(x.n); !bytes.Equal(b, x.b) {
			t.Errorf("P1.1: Int(%d) is %v instead of %v", x.n, b, x.b)
		}
	}
	for _, n := range numbers() {
		if b := Int(n); !bytes.Equal(b, model(n)) {
			t.Errorf("P1.1: Int(%d) is %v instead of %v", n, b, model(n))
		}
	}
}

func TestP1_2GetInt(t *testing.T) {
	for _, n := range numbers() {
		b := model(n)
		if m, used, e := GetInt(b); m != n || used != len(b) || e != api.OK {
			t.Errorf("P1.2: GetInt of %v: %d, used %d, error %d", b, m, used, e)
		}
	}
	refuses(t, "P1.2", "GetInt", []refusal{
		{nil, api.ErrMore},
		{[]byte{}, api.ErrMore},
		{[]byte{0}, api.ErrForm},
		{[]byte{118}, api.ErrForm},
		{[]byte{137}, api.ErrForm},
		{[]byte{255}, api.ErrForm},
		{[]byte{118, 1, 2, 3, 4, 5, 6, 7, 8, 9}, api.ErrForm},
		{[]byte{137, 1, 2, 3, 4, 5, 6, 7, 8, 9}, api.ErrForm},
		{[]byte{129}, api.ErrMore},
		{[]byte{126}, api.ErrMore},
		{[]byte{130, 1}, api.ErrMore},
		{[]byte{136, 1, 2, 3, 4, 5, 6, 7}, api.ErrMore},
		{[]byte{119, 1, 2, 3, 4, 5, 6, 7}, api.ErrMore},
		{[]byte{129, 0}, api.ErrForm},
		{[]byte{126, 255}, api.ErrForm},
		{[]byte{130, 0, 1}, api.ErrForm},
		{[]byte{125, 255, 0}, api.ErrForm},
		{[]byte{136, 0, 127, 1, 1, 1, 1, 1, 1}, api.ErrForm},
		{[]byte{119, 255, 127, 1, 1, 1, 1, 1, 1}, api.ErrForm},
		{[]byte{136, 128, 0, 0, 0, 0, 0, 0, 0}, api.ErrForm},
		{[]byte{136, 255, 255, 255, 255, 255, 255, 255, 255}, api.ErrForm},
		{[]byte{119, 127, 255, 255, 255, 255, 255, 255, 255}, api.ErrForm},
		{[]byte{119, 0, 0, 0, 0, 0, 0, 0, 0}, api.ErrForm},
		// too few bytes are noticed before bytes that are no encoding
		{[]byte{130, 0}, api.ErrMore},
		{[]byte{125, 255}, api.ErrMore},
		{[]byte{136, 255}, api.ErrMore},
		{[]byte{119, 0}, api.ErrMore},
	})
}

func TestP1_3Bytes(t *testing.T) {
	for _, s := range []string{"", "a", "ab", "\x00\x80\xff", strings.Repeat("x", 255), strings.Repeat("y", 256), strings.Repeat("z", api.MaxBytes+1)} {
		want := append(model(len(s)), s...)
		if b := Bytes(s); !bytes.Equal(b, want) {
			t.Errorf("P1.3: Bytes of %d bytes: %d bytes", len(s), len(b))
		}
		if v, used, e := GetBytes(want); v != s || used != len(want) || e != api.OK {
			t.Errorf("P1.3: GetBytes of %d bytes: %d bytes, used %d, error %d", len(s), len(v), used, e)
		}
	}
	refuses(t, "P1.3", "GetBytes", []refusal{
		{nil, api.ErrMore},
		{[]byte{130, 1}, api.ErrMore},
		{[]byte{137, 97}, api.ErrForm},
		{[]byte{118, 97}, api.ErrForm},
		{[]byte{129, 0, 97}, api.ErrForm},
		{[]byte{127}, api.ErrForm},
		{[]byte{127, 97}, api.ErrForm},
		{[]byte{126, 254, 97, 97}, api.ErrForm},
		{[]byte{119, 128, 0, 0, 0, 0, 0, 0, 0, 97}, api.ErrForm},
		{[]byte{129, 1}, api.ErrMore},
		{[]byte{129, 3, 97, 98}, api.ErrMore},
		{Int(math.MaxInt), api.ErrMore},
		{append(Int(math.MaxInt), 97), api.ErrMore},
		{append(Int(math.MaxInt-8), 97), api.ErrMore},
	})
}

func TestP1_4Ints(t *testing.T) {
	for _, l := range [][]int{nil, {}, {0}, {1, -1}, numbers(), make([]int, 256)} {
		want := model(len(l))
		for _, n := range l {
			want = append(want, model(n)...)
		}
		if b := Ints(l); !bytes.Equal(b, want) {
			t.Errorf("P1.4: Ints of %d elements: %d bytes", len(l), len(b))
		}
		if v, used, e := GetInts(want); !slices.Equal(v, l) || used != len(want) || e != api.OK {
			t.Errorf("P1.4: GetInts of %d elements: %d elements, used %d, error %d", len(l), len(v), used, e)
		}
	}
	if b := Ints([]int{1, -1}); !bytes.Equal(b, []byte{129, 2, 129, 1, 127}) {
		t.Error("P1.4: the example:", b)
	}
	refuses(t, "P1.4", "GetInts", append(lengths(),
		refusal{[]byte{129, 1, 118}, api.ErrForm},
		refusal{[]byte{129, 1, 129, 0}, api.ErrForm},
		refusal{[]byte{129, 2, 128, 118}, api.ErrForm},
		refusal{[]byte{129, 2, 128, 129}, api.ErrMore},
		refusal{[]byte{129, 2, 129, 7}, api.ErrMore},
		refusal{[]byte{129, 2, 118, 129}, api.ErrForm},
		refusal{[]byte{129, 3, 128, 136, 118}, api.ErrMore},
	))
}

func TestP1_5Strings(t *testing.T) {
	for _, l := range [][]string{nil, {}, {""}, {"", "a"}, {"a", ""}, {"\x80", "\x00\xff", strings.Repeat("x", 300)}, make([]string, 256)} {
		want := model(len(l))
		for _, s := range l {
			want = append(append(want, model(len(s))...), s...)
		}
		if b := Strings(l); !bytes.Equal(b, want) {
			t.Errorf("P1.5: Strings of %d elements: %d bytes", len(l), len(b))
		}
		if v, used, e := GetStrings(want); !slices.Equal(v, l) || used != len(want) || e != api.OK {
			t.Errorf("P1.5: GetStrings of %d elements: %d elements, used %d, error %d", len(l), len(v), used, e)
		}
	}
	if b := Strings([]string{"", "a"}); !bytes.Equal(b, []byte{129, 2, 128, 129, 1, 97}) {
		t.Error("P1.5: the example:", b)
	}
	refuses(t, "P1.5", "GetStrings", append(lengths(),
		refusal{[]byte{129, 1, 118}, api.ErrForm},
		refusal{[]byte{129, 1, 127}, api.ErrForm},
		refusal{[]byte{129, 1, 129, 0}, api.ErrForm},
		refusal{[]byte{129, 1, 129, 1}, api.ErrMore},
		refusal{[]byte{129, 2, 128, 129, 2, 97}, api.ErrMore},
		refusal{[]byte{129, 2, 129, 1, 97}, api.ErrMore},
		refusal{[]byte{129, 2, 127, 129}, api.ErrForm},
		refusal{[]byte{129, 3, 128, 136, 127}, api.ErrMore},
	))
}

func TestP1_8Digests(t *testing.T) {
	for _, l := range [][]api.Digest{nil, {}, {{}}, {digest(3)}, {digest(1), digest(2), digest(1)}, make([]api.Digest, 256)} {
		want := model(len(l))
		for _, d := range l {
			want = append(want, d[:]...)
		}
		if b := Digests(l); !bytes.Equal(b, want) {
			t.Errorf("P1.8: Digests of %d elements: %d bytes", len(l), len(b))
		}
		if v, used, e := GetDigests(want); !slices.Equal(v, l) || used != len(want) || e != api.OK {
			t.Errorf("P1.8: GetDigests of %d elements: %v, used %d, error %d", len(l), v, used, e)
		}
	}
	one := append([]byte{129, 1, 1, 2}, make([]byte, 14)...)
	if l, used, e := GetDigests(one); len(l) != 1 || l[0] != (api.Digest{1, 2}) || used != 18 || e != api.OK {
		t.Errorf("P1.8: GetDigests of %v: %v, used %d, error %d", one, l, used, e)
	}
	two := Digests([]api.Digest{digest(1), digest(2)})
	refuses(t, "P1.8", "GetDigests", append(lengths(),
		refusal{two[:2], api.ErrMore},
		refusal{two[:2+api.DigestSize], api.ErrMore},
		refusal{two[:len(two)-1], api.ErrMore},
		// the length times DigestSize wraps around, to 0 and to 16
		refusal{append(Int(1<<60), two...), api.ErrMore},
		refusal{append(Int(1<<60+1), two...), api.ErrMore},
	))
}

// lengths returns what all lists refuse because of their length.
func lengths() []refusal {
	return []refusal{
		{nil, api.ErrMore},
		{[]byte{130, 1}, api.ErrMore},
		{[]byte{137, 128}, api.ErrForm},
		{[]byte{118, 128}, api.ErrForm},
		{[]byte{129, 0, 128}, api.ErrForm},
		{[]byte{127}, api.ErrForm},
		{[]byte{127, 128}, api.ErrForm},
		{[]byte{126, 254, 128, 128}, api.ErrForm},
		{append(Int(math.MinInt), 128), api.ErrForm},
		{[]byte{129, 1}, api.ErrMore},
		{append(Int(math.MaxInt), 128), api.ErrMore},
		{append(Int(math.MaxInt-8), 128), api.ErrMore},
		// too few bytes are noticed before an element that is none
		{[]byte{129, 2, 118}, api.ErrMore},
		{[]byte{129, 3, 118, 118}, api.ErrMore},
	}
}

func TestP1_6WhateverFollows(t *testing.T) {
	all := samples()
	for _, d := range decoders() {
		for _, b := range all[d.name] {
			want := d.call(b)
			if want.e != api.OK || want.used != len(b) || !bytes.Equal(want.again, b) {
				t.Errorf("P1.6: %s of %v: used %d, error %d", d.name, b, want.used, want.e)
			}
			for _, tail := range [][]byte{{0}, {128}, {255, 255}, b, bytes.Repeat([]byte{129}, 40)} {
				r := d.call(append(slices.Clone(b), tail...))
				if r.e != api.OK || r.used != len(b) || !bytes.Equal(r.again, b) {
					t.Errorf("P1.6: %s of %v and %v: used %d, error %d", d.name, b, tail, r.used, r.e)
				}
			}
		}
	}
}

func TestP1_6Prefixes(t *testing.T) {
	all := samples()
	for _, d := range decoders() {
		for _, b := range all[d.name] {
			for n := range len(b) {
				if r := d.call(b[:n]); r.e != api.ErrMore || r.used != 0 || !r.zero {
					t.Errorf("P1.6: %s of %v: used %d, error %d", d.name, b[:n], r.used, r.e)
				}
			}
		}
	}
}

// All sequences of up to five bytes that mean something are decoded: what is accepted is its only encoding, what is refused gives nothing.
func TestP1_6OneEncoding(t *testing.T) {
	alphabet := []byte{0, 1, 2, 16, 118, 119, 125, 126, 127, 128, 129, 130, 136, 137, 255}
	var visit func(b []byte)
	visit = func(b []byte) {
		for _, d := range decoders() {
			oneEncoding(t, d, b)
		}
		for _, c := range alphabet {
			if len(b) < 5 {
				visit(append(b, c))
			}
		}
	}
	visit(make([]byte, 0, 5))
}

func oneEncoding(t *testing.T, d decoder, b []byte) {
	switch r := d.call(b); r.e {
	case api.OK:
		if r.used < 1 || r.used > len(b) || !bytes.Equal(r.again, b[:r.used]) {
			t.Fatalf("P1.6: %s of %v: %#v, used %d, whose encoding is %v", d.name, b, r.value, r.used, r.again)
		}
	case api.ErrMore, api.ErrForm:
		if r.used != 0 || !r.zero {
			t.Fatalf("P1.6: %s of %v: %#v, used %d, with the error %d", d.name, b, r.value, r.used, r.e)
		}
	default:
		t.Fatalf("P1.6: %s of %v: error %d", d.name, b, r.e)
	}
}

func TestP1_7Order(t *testing.T) {
	l := numbers()
	for i, n := range l {
		if b := Int(n); len(b) > 9 {
			t.Errorf("P1.7: Int(%d) has %d bytes", n, len(b))
		}
		if i > 0 && bytes.Compare(Int(l[i-1]), Int(n)) >= 0 {
			t.Errorf("P1.7: Int(%d) is not before Int(%d)", l[i-1], n)
		}
	}
}

func TestResultsAreNew(t *testing.T) {
	b := Strings([]string{"ab", "cd"})
	l, _, _ := GetStrings(b)
	s, _, _ := GetBytes(b[2:])
	clear(b)
	if !slices.Equal(l, []string{"ab", "cd"}) || s != "ab" {
		t.Error("P1.3, P1.5: the results changed with the argument:", l, s)
	}
	ints, digests := []int{1, 2}, []api.Digest{digest(1)}
	first, second := Ints(ints), Digests(digests)
	clear(first)
	clear(second)
	if !slices.Equal(ints, []int{1, 2}) || digests[0] != digest(1) {
		t.Error("P1.4, P1.8: the arguments changed with the results:", ints, digests)
	}
	if x, y := Int(7), Int(7); &x[0] == &y[0] {
		t.Error("P1.1: two results share memory")
	}
}

func TestDecodingChangesNothing(t *testing.T) {
	all := samples()
	for _, d := range decoders() {
		for _, b := range all[d.name] {
			before := slices.Clone(b)
			d.call(b)
			if !bytes.Equal(b, before) {
				t.Errorf("%s changed its argument %v to %v", d.name, before, b)
			}
		}
	}
}

// A length that is greater than what follows must not lead to memory of that length.
func TestMemory(t *testing.T) {
	const size = 1 << 16
	body := bytes.Repeat([]byte{128}, size)
	for _, n := range []int{1, size / api.DigestSize, size, size + 1, 1 << 40, 1 << 60, math.MaxInt} {
		b := append(Int(n), body...)
		for name, call := range map[string]func(){
			"GetBytes":   func() { GetBytes(b) },
			"GetInts":    func() { GetInts(b) },
			"GetStrings": func() { GetStrings(b) },
			"GetDigests": func() { GetDigests(b) },
		} {
			var before, after runtime.MemStats
			runtime.ReadMemStats(&before)
			call()
			runtime.ReadMemStats(&after)
			if used := after.TotalAlloc - before.TotalAlloc; used > 64*size {
				t.Errorf("%s of the length %d and %d bytes allocates %d bytes", name, n, size, used)
			}
		}
	}
}

package table

import (
	"encoding/hex"
	"math"
	"math/rand"
	"slices"
	"testing"

	"dactyl/api"
	"dactyl/wire"
)

// empty is the encoding of tables without anything.
const empty = "\x80\x80\x81\x05\x80\x80\x80\x80\x80"

// anyBytes returns any bytes.
func anyBytes(r *rand.Rand, most int) []byte {
	l := make([]byte, r.Intn(most+1))
	r.Read(l)
	return l
}

// wrongTables returns tables that need not be valid.
func wrongTables(r *rand.Rand) api.Tables {
	t := api.Tables{Digits: anyBytes(r, 12)}
	for _, l := range indicators(&t) {
		*l = anyBytes(r, 6)
	}
	for i := range t.Lang {
		for range r.Intn(5) {
			where := r.Intn(5)
			if r.Intn(3) == 0 {
				where = int(r.Uint64()) >> r.Intn(64)
			}
			t.Lang[i].Rules = append(t.Lang[i].Rules, rule(string(anyBytes(r, 10)), where, anyBytes(r, 6)...))
		}
	}
	return t
}

func TestP6_4Encode(test *testing.T) {
	t := api.Tables{Digits: []byte{41, 42}, Cap: []byte{60}, End: []byte{62, 1, 200}, Switch: []byte{63}}
	t.Lang[0].Rules = []api.Rule{rule("an", api.Word, 31, 7), rule("", -1)}
	t.Lang[1].Rules = []api.Rule{rule(".", 300, 33)}
	want := "\x81\x02" + "\x81\x02an" + "\x81\x01" + "\x81\x02\x1f\x07" + "\x80" + "\x7f" + "\x80" +
		"\x81\x01" + "\x81\x01." + "\x82\x01\x2c" + "\x81\x01\x21" +
		"\x81\x05" + "\x81\x02\x29\x2a" + "\x81\x01\x3c" + "\x80" + "\x81\x03\x3e\x01\xc8" + "\x81\x01\x3f"
	kept := copied(t)
	if got := Encode(t); string(got) != want {
		test.Errorf("P6.4: the encoding is %x", got)
	}
	if got := Encode(api.Tables{}); string(got) != empty {
		test.Errorf("P6.4: the encoding of nothing is %x", got)
	}
	if !same(t, kept) {
		test.Error("P6.4: Encode changes its argument")
	}
}

func TestP6_4Decode(test *testing.T) {
	five := func(l ...string) string { return string(wire.Strings(l)) }
	for i, c := range []struct {
		b    string
		used int
		e    api.Errno
	}{
		{empty, 9, api.OK},
		{empty + "abc", 9, api.OK},
		{"", 0, api.ErrMore},
		{"\x80", 0, api.ErrMore},
		{"\x80\x80", 0, api.ErrMore},
		{"\x00", 0, api.ErrForm},
		{"\x81\x00" + empty[1:], 0, api.ErrForm},
		{"\x7f" + empty[1:], 0, api.ErrForm},
		{"\x7f", 0, api.ErrForm},
		{"\x80\x7f" + empty[2:], 0, api.ErrForm},
		{string(wire.Int(math.MinInt)) + empty[1:], 0, api.ErrForm},
		{"\x80\x80" + five(), 0, api.ErrForm},
		{"\x80\x80" + five("", "", "", ""), 0, api.ErrForm},
		{"\x80\x80" + five("", "", "", "", "", ""), 0, api.ErrForm},
		{"\x80\x80\x81\x04\x80\x80\x80", 0, api.ErrMore},
		{"\x80\x80\x7f", 0, api.ErrForm},
		{"\x80\x80\x81\x05\x80\x80\x80\x80\x7f", 0, api.ErrForm},
		{"\x81\x01", 0, api.ErrMore},
		{"\x81\x01\x7f", 0, api.ErrForm},
		{"\x81\x01\x80\x00", 0, api.ErrForm},
		{"\x81\x01\x80\x80\x7f", 0, api.ErrForm},
		{"\x81\x01\x80\x80\x81", 0, api.ErrMore},
		{"\x81\x02\x80\x80\x80\x00", 0, api.ErrForm},
		{"\x81\x01\x80\x80\x80\x7f", 0, api.ErrForm},
		{"\x81\x01\x80\x80\x80" + empty[1:], 13, api.OK},
		{"\x80\x81\x01\x80\x80\x80" + empty[2:], 13, api.OK},
		{string(wire.Int(math.MaxInt)) + empty, 0, api.ErrMore},
		{"\x80" + string(wire.Int(math.MaxInt)), 0, api.ErrMore},
		{"\x80\x80" + string(wire.Int(math.MaxInt)), 0, api.ErrMore},
	} {
		t, used, e := Decode([]byte(c.b))
		if used != c.used || e != c.e {
			test.Errorf("P6.4: Decode of %x has the length %d and the error %d", c.b, used, e)
		}
		if e != api.OK && !same(t, api.Tables{}) {
			test.Errorf("P6.4: Decode %d has an error and tables", i)
		}
	}
}

func TestP6_4Memory(test *testing.T) {
	b := Encode(sample())
	t, _, _ := Decode(b)
	for i := range b {
		b[i] = 99
	}
	if !same(t, sample()) {
		test.Error("P6.4: the tables of Decode share memory with its argument")
	}
	t.Cap, t.Num = append(t.Cap, 9), append(t.Num, 9)
	for i := range t.Lang[0].Rules {
		t.Lang[0].Rules[i].Cells[0]++
	}
	t.Lang[0].Rules = append(t.Lang[0].Rules, rule("", 0))
	other := sample()
	if string(t.End) != "\x3e" || string(t.Switch) != "\x3f" || !bytesEqual(t.Digits, other.Digits) || !slices.EqualFunc(t.Lang[1].Rules, other.Lang[1].Rules, func(r, s api.Rule) bool { return bytesEqual(r.Cells, s.Cells) }) {
		test.Error("P6.4: lists of the tables of Decode share memory")
	}
}

func TestP6_4Digest(test *testing.T) {
	for i, c := range []struct {
		t    api.Tables
		want string
	}{ // computed outside of Go
		{sample(), "7a5f6e1ff1a68070a4d74ea140bbdd90"},
		{api.Tables{}, "d8563f5e0d72f2a563b80fdd1bb91937"},
	} {
		if d := Digest(c.t); hex.EncodeToString(d[:]) != c.want {
			test.Errorf("P6.4: the digest %d is %x", i, d)
		}
	}
}

func TestP6_8Bytes(test *testing.T) {
	r := rand.New(rand.NewSource(8))
	for i := range 1000 {
		t := wrongTables(r)
		if i%100 == 0 {
			t = anyTables(r)
		}
		b := Encode(t)
		got, used, e := Decode(append(slices.Clone(b), anyBytes(r, 5)...))
		if e != api.OK || used != len(b) || !same(got, t) {
			test.Fatalf("P6.8: Decode of the encoding of %v is %v, %d, %d", t, got, used, e)
		}
		for n := range b {
			got, used, e := Decode(b[:n:n])
			if e != api.ErrMore || used != 0 || !same(got, api.Tables{}) {
				test.Fatalf("P6.8: Decode of %d bytes of the encoding of %v has the error %d", n, t, e)
			}
		}
	}
}

func TestP6_8OnlyEncodings(test *testing.T) {
	r := rand.New(rand.NewSource(88))
	for range 20000 {
		b := Encode(wrongTables(r))
		b[r.Intn(len(b))] = byte(r.Intn(256))
		t, used, e := Decode(b)
		if e == api.OK && !bytesEqual(Encode(t), b[:used]) {
			test.Fatalf("P6.4: Decode accepts %x, which is no encoding", b)
		}
		if e != api.OK && e != api.ErrMore && e != api.ErrForm {
			test.Fatalf("P6.4: Decode of %x has the error %d", b, e)
		}
	}
}

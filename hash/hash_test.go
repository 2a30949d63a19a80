package hash

import (
	"crypto/hmac"
	"crypto/sha256"
	"encoding/hex"
	"math"
	"slices"
	"strings"
	"testing"

	"dactyl/api"
)

// message returns n bytes of all values; the first ones are no UTF-8.
func message(n int) string {
	b := make([]byte, n)
	for i := range b {
		b[i] = byte(255 - i*7 - i/256)
	}
	return string(b)
}

// sum is SHA-256 of Go's library.
func sum(text string) [32]byte {
	return sha256.Sum256([]byte(text))
}

// code is HMAC-SHA-256 of Go's library.
func code(key, text string) string {
	h := hmac.New(sha256.New, []byte(key))
	h.Write([]byte(text))
	return string(h.Sum(nil))
}

// digest returns what P2.4 says of parts of at most 255 bytes, without package wire.
func digest(tag byte, parts ...string) api.Digest {
	text := string([]byte{tag})
	for _, part := range parts {
		if part == "" {
			text += "\x80"
		} else {
			text += "\x81" + string([]byte{byte(len(part))}) + part
		}
	}
	h := sum(text)
	return api.Digest(h[:16])
}

// matches reports whether b is written in hexadecimal as begin, and end at its end.
func matches(b []byte, begin, end string) bool {
	s := hex.EncodeToString(b)
	return strings.HasPrefix(s, begin) && strings.HasSuffix(s, end)
}

func TestP2_1Sum(t *testing.T) {
	for _, x := range []struct{ text, want string }{
		{"", "e3b0c44298fc1c149afbf4c8996fb92427ae41e4649b934ca495991b7852b855"},
		{"abc", "ba7816bf8f01cfea414140de5dae2223b00361a396177a9cb410ff61f20015ad"},
		{"abcdbcdecdefdefgefghfghighijhijkijkljklmklmnlmnomnopnopq", "248d6a61d20638b8e5c026930c3e6039a33ce45964ff2167f6ecedd419db06c1"},
		{strings.Repeat("a", 1_000_000), "cdc76e5c9914fb9281a1c7e284d73e67f1809a48a497200e046d39ccc7112cd0"},
	} {
		if h := Sum([]byte(x.text)); hex.EncodeToString(h[:]) != x.want {
			t.Errorf("P2.1: Sum of %d bytes is %x instead of %s", len(x.text), h, x.want)
		}
	}
	if h := Sum(nil); h != sum("") {
		t.Errorf("P2.1: Sum of nil is %x", h)
	}
	for n := range 5*size + 2 {
		for _, text := range []string{message(n), strings.Repeat("\x00", n), strings.Repeat("\xff", n)} {
			b := []byte(text)
			if h := Sum(b); h != sum(text) {
				t.Errorf("P2.1: Sum of %d bytes is %x instead of %x", n, h, sum(text))
			}
			if string(b) != text {
				t.Errorf("P2.1: Sum changed its %d bytes", n)
			}
		}
	}
}

// The length in bits of this message needs more than 32 bits.
func TestP2_1LongMessage(t *testing.T) {
	piece := message(1 << 20)
	s, model := Begin(), sha256.New()
	for range 1 << 9 {
		s = s.Add(piece)
		model.Write([]byte(piece))
	}
	s = s.Add("abc")
	model.Write([]byte("abc"))
	if h := s.Sum(); string(h[:]) != string(model.Sum(nil)) {
		t.Errorf("P2.1: a message of 2^29 + 3 bytes: %x instead of %x", h, model.Sum(nil))
	}
}

func TestP2_2Stream(t *testing.T) {
	if h := Begin().Sum(); h != sum("") {
		t.Errorf("P2.2: the empty stream: %x", h)
	}
	if h := Begin().Add("a").Add("bc").Sum(); !matches(h[:], "ba7816bf", "f20015ad") {
		t.Errorf("P2.2: the example: %x", h)
	}
	s := Begin()
	for n := range 4 * size {
		if h := s.Sum(); h != sum(message(n)) {
			t.Errorf("P2.2: a stream of %d single bytes: %x", n, h)
		}
		s = s.Add(message(n + 1)[n:])
	}
}

func TestP2_2StreamsOfOneBeginning(t *testing.T) {
	for n := range 2*size + 2 {
		text := message(n)
		s := Begin().Add(text)
		for _, more := range []string{"", "x", "another end", message(size), message(3*size + 1)} {
			next := s.Add(more)
			if h := next.Sum(); h != sum(text+more) {
				t.Errorf("P2.2: %d and %d bytes: %x", n, len(more), h)
			}
			if next.Sum() != sum(text+more) || next.Add("y").Sum() != sum(text+more+"y") {
				t.Errorf("P2.2: Sum changed the stream of %d and %d bytes", n, len(more))
			}
			if s.Sum() != sum(text) {
				t.Errorf("P2.2: Add of %d bytes changed the stream of %d bytes", len(more), n)
			}
		}
	}
	one, two := Begin(), Begin().Add("x")
	if one.Sum() != sum("") || two.Sum() != sum("x") || Begin().Sum() != sum("") {
		t.Error("P2.2: one stream changed another one")
	}
}

// What a stream that Begin did not make answers is not specified, but P1 holds for it.
func TestP1ZeroStream(t *testing.T) {
	for n := range 2*size + 2 {
		Stream{}.Add(message(n)).Sum()
	}
}

func TestP2_3Mac(t *testing.T) {
	for _, x := range []struct{ key, text, want string }{
		{"Jefe", "what do ya want for nothing?", "5bdcc146bf60754e6a042426089575c75a003f089d2739839dec58b964ec3843"},
		{strings.Repeat("\x0b", 20), "Hi There", "b0344c61d8db38535ca8afceaf0bf12b881dc200c9833da726e9376c2e32cff7"},
		{strings.Repeat("\xaa", 20), strings.Repeat("\xdd", 50), "773ea91e36800e46854db8ebd09181a72959098b3ef8c122d9635514ced565fe"},
		{strings.Repeat("\xaa", 131), "Test Using Larger Than Block-Size Key - Hash Key First", "60e431591ee0b67f0d8a26aacbf5b77f8e0bc6213728c5140546040f0ee37f54"},
	} {
		if m := Mac(x.key, x.text); hex.EncodeToString([]byte(m)) != x.want {
			t.Errorf("P2.3: Mac(%q, %q) is %x instead of %s", x.key, x.text, m, x.want)
		}
	}
	if m := Mac("", ""); len(m) != 32 || !matches([]byte(m), "b613679a", "4292c5ad") {
		t.Errorf("P2.3: the example without bytes: %x", m)
	}
	for n := range 3*size + 2 {
		for _, k := range []int{0, 1, size - 1, size, 3 * size} {
			if m := Mac(message(n), message(k)); m != code(message(n), message(k)) {
				t.Errorf("P2.3: a key of %d bytes and a text of %d bytes: %x", n, k, m)
			}
		}
	}
	// a key of 64 bytes is not replaced, one of 65 bytes is
	for _, n := range []int{size, size + 1} {
		h := sum(message(n))
		if same := Mac(message(n), "x") == Mac(string(h[:]), "x"); same != (n > size) {
			t.Errorf("P2.3: a key of %d bytes is replaced: %t", n, same)
		}
	}
}

func TestP2_4Of(t *testing.T) {
	if d := Of(1); !matches(d[:], "4bf5122f", "8cd2b7e3") {
		t.Errorf("P2.4: Of(1) is %x", d)
	}
	if d := Of(8, "a", ""); !matches(d[:], "36cd5085", "a7d8fb62") {
		t.Errorf("P2.4: Of(8, a, no bytes) is %x", d)
	}
	for _, parts := range [][]string{nil, {}, {""}, {"", ""}, {"a"}, {"ab", "\x00", "\xff\x80"}, {message(255), message(54), message(55)}} {
		for tag := range 256 {
			if d := Of(tag, parts...); d != digest(byte(tag), parts...) {
				t.Errorf("P2.4: Of(%d, %q) is %x", tag, parts, d)
			}
		}
	}
	long := message(api.MaxBytes)
	if h := sum("\x07\x83\x01\x00\x00" + long); Of(7, long) != api.Digest(h[:16]) {
		t.Errorf("P2.4: Of(7, %d bytes) is %x", len(long), Of(7, long))
	}
}

func TestP2_4OtherTags(t *testing.T) {
	for _, x := range []struct {
		tag  int
		want byte
	}{
		{256, 0}, {257, 1}, {511, 255}, {1<<40 + 3, 3}, {math.MaxInt, 255},
		{-1, 255}, {-2, 254}, {-255, 1}, {-256, 0}, {-257, 255}, {math.MinInt, 0}, {math.MinInt + 9, 9},
	} {
		if d := Of(x.tag, "a"); d != digest(x.want, "a") {
			t.Errorf("P2.4: Of(%d, a) is %x", x.tag, d)
		}
	}
	parts := []string{"a", "b"}
	if Of(1, parts...); !slices.Equal(parts, []string{"a", "b"}) {
		t.Error("P2.4: Of changed its parts:", parts)
	}
}

func TestP2_5Equal(t *testing.T) {
	for _, x := range []struct {
		a, b string
		want bool
	}{
		{"ab", "ab", true}, {"ab", "ac", false}, {"", "a", false}, {"", "", true},
		{"a", "aa", false}, {"a", "a\x00", false}, {"\x00", "", false}, {"ab", "ba", false},
		{"\xff\xfe", "\xff\xfe", true}, {"\xff", "\xfe", false}, {"\xc3\xa9", "\xc3\xa8", false},
		// differences that cancel each other
		{"aab", "bba", false}, {"\x01\x01", "\x00\x00", false}, {"\x80\x80", "\x00\x00", false},
	} {
		if Equal(x.a, x.b) != x.want || Equal(x.b, x.a) != x.want {
			t.Errorf("P2.5: Equal(%q, %q) is not %t", x.a, x.b, x.want)
		}
	}
	text := message(100)
	if !Equal(text, strings.Clone(text)) {
		t.Error("P2.5: two texts with the same bytes are not equal")
	}
	for n := range text {
		if Equal(text, text[:n]) || Equal(text[:n], text) {
			t.Errorf("P2.5: the text is equal to its first %d bytes", n)
		}
	}
	for i := range len(text) {
		for bit := range 8 {
			b := []byte(text)
			b[i] ^= 1 << bit
			if Equal(text, string(b)) {
				t.Errorf("P2.5: a change of bit %d of byte %d is not seen", bit, i)
			}
		}
	}
}

func TestP2_6Pieces(t *testing.T) {
	text := message(3*size + 5)
	want := sum(text)
	for i := range len(text) + 1 {
		for j := i; j <= len(text); j++ {
			if h := Begin().Add(text[:i]).Add(text[i:j]).Add(text[j:]).Sum(); h != want {
				t.Fatalf("P2.6: pieces up to %d, %d and %d: %x", i, j, len(text), h)
			}
		}
	}
	for step := 1; step <= len(text); step++ {
		s := Begin().Add("")
		for piece := range slices.Chunk([]byte(text), step) {
			s = s.Add(string(piece)).Add("")
		}
		if h := s.Sum(); h != want {
			t.Errorf("P2.6: pieces of %d bytes: %x", step, h)
		}
	}
}

// Parts that look like encodings of other parts must not give their digests.
func TestP2_6DifferentInputs(t *testing.T) {
	words := []string{"", "a", "aa", "\x80", "\x80\x80", "\x81\x01a", "\x81", "\x01"}
	lists := [][]string{{}}
	for n := 0; len(lists[n]) < 3; n++ {
		for _, word := range words {
			lists = append(lists, append(slices.Clone(lists[n]), word))
		}
	}
	type input struct {
		tag  int
		list string
	}
	seen := map[api.Digest]input{}
	for _, tag := range []int{0, 1, 2, 12, 127, 128, 129, 254, 255} {
		for _, list := range lists {
			d := Of(tag, list...)
			in := input{tag, hex.EncodeToString([]byte(strings.Join(list, "|")))}
			if other, twice := seen[d]; twice {
				t.Errorf("P2.6: %v and %v have the digest %x", in, other, d)
			}
			seen[d] = in
		}
	}
	if len(lists) != 1+8+64+512 {
		t.Error("the test covers too few lists:", len(lists))
	}
}

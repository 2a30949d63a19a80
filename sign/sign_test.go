package sign

import (
	"crypto/hmac"
	"crypto/sha256"
	"encoding/hex"
	"fmt"
	"math"
	"math/rand"
	"slices"
	"strings"
	"testing"

	"dactyl/api"
)

const (
	digestSize = 16
	maxMessage = 1 << 20
)

var (
	seed  = counting(0, 1)
	other = counting(255, -7)
)

// counting returns a seed.
func counting(first, step int) string {
	b := make([]byte, 32)
	for i := range b {
		b[i] = byte(first + step*i)
	}
	return string(b)
}

// number is the encoding of an integer from -256 to 65535, without package wire.
func number(n int) string {
	switch {
	case n < -1:
		return string([]byte{126, byte(n)})
	case n == -1:
		return "\x7f"
	case n == 0:
		return "\x80"
	case n < 256:
		return string([]byte{129, byte(n)})
	}
	return string([]byte{130, byte(n >> 8), byte(n)})
}

// numbers is the encoding of a list of such integers.
func numbers(l ...int) string {
	s := number(len(l))
	for _, n := range l {
		s += number(n)
	}
	return s
}

// of is a digest of parts, without package hash.
func of(tag byte, parts ...string) string {
	text := string([]byte{tag})
	for _, part := range parts {
		text += number(len(part)) + part
	}
	h := sha256.Sum256([]byte(text))
	return string(h[:digestSize])
}

// chainValue is the value of a chain at a height.
func chainValue(seed string, i, c, height int) string {
	m := hmac.New(sha256.New, []byte(seed))
	m.Write([]byte("chain" + numbers(i, c)))
	v := string(m.Sum(nil)[:digestSize])
	for t := range height {
		v = of(5, numbers(i, c, t), v)
	}
	return v
}

// levels returns the nodes of a tree, those of level 0 first.
func levels(seed string, height int) [][]string {
	l := [][]string{nil}
	for i := range 1 << height {
		key := ""
		for c := range 68 {
			key += chainValue(seed, i, c, 3)
		}
		l[0] = append(l[0], of(1, of(3, key)))
	}
	for level := range height {
		var up []string
		for pair := range slices.Chunk(l[level], 2) {
			up = append(up, of(2, pair[0], pair[1]))
		}
		l = append(l, up)
	}
	return l
}

// digitsOf are the digits as P3.1 says them, from the bits of the digest as a text.
func digitsOf(d string) []int {
	bits := ""
	for i := range len(d) {
		bits += fmt.Sprintf("%08b", d[i])
	}
	l := make([]int, 0, 68)
	sum := 0
	for pair := range slices.Chunk([]byte(bits), 2) {
		x := 2*int(pair[0]-'0') + int(pair[1]-'0')
		l = append(l, x)
		sum += 3 - x
	}
	return append(l, sum/64, sum/16%4, sum/4%4, sum%4)
}

// signature is a signature as P3.3 says it; tree is what levels returns.
func signature(seed string, tree [][]string, index int, message string) string {
	root := tree[len(tree)-1][0]
	s := number(index)
	for c, digit := range digitsOf(of(4, root, number(index), message)) {
		s += chainValue(seed, index, c, digit)
	}
	for level := range len(tree) - 1 {
		s += tree[level][index>>level^1]
	}
	return s
}

// digest returns 16 bytes as a digest.
func digest(s string) api.Digest {
	return api.Digest([]byte(s))
}

// fromHex returns the bytes that a text says.
func fromHex(t *testing.T, s string) string {
	t.Helper()
	b, err := hex.DecodeString(s)
	if err != nil {
		t.Fatal(err)
	}
	return string(b)
}

// filled returns a digest of equal bytes.
func filled(b byte) api.Digest {
	var d api.Digest
	for i := range d {
		d[i] = b
	}
	return d
}

// publicKey returns a public key and fails if there is none.
func publicKey(t *testing.T, seed string, height int) api.Digest {
	t.Helper()
	p, e := Public(seed, height)
	if e != api.OK {
		t.Fatalf("P3.1: Public of the height %d: error %d", height, e)
	}
	return p
}

// signed returns a signature and fails if there is none.
func signed(t *testing.T, seed string, height, index int, message string) string {
	t.Helper()
	s, e := Sign(seed, height, index, message)
	if e != api.OK {
		t.Fatalf("P3.3: Sign with the height %d and the index %d: error %d", height, index, e)
	}
	return s
}

func TestConstants(t *testing.T) {
	if Chains != 68 || Top != 3 || MaxHeight != 6 {
		t.Errorf("P3.1: the constants are %d, %d, %d", Chains, Top, MaxHeight)
	}
}

func TestP3_1Digits(t *testing.T) {
	if l := Digits(api.Digest{}); !slices.Equal(l, append(make([]int, 64), 3, 0, 0, 0)) {
		t.Error("P3.1: the digits of 16 zero bytes:", l)
	}
	if l := Digits(filled(255)); !slices.Equal(l, append(slices.Repeat([]int{3}, 64), 0, 0, 0, 0)) {
		t.Error("P3.1: the digits of 16 bytes 255:", l)
	}
	// 27 is 0 1 2 3; each byte of this kind takes 6 from the sum of 192
	d := api.Digest{0: 27, 15: 0xe4}
	want := append([]int{0, 1, 2, 3}, make([]int, 56)...)
	want = append(want, 3, 2, 1, 0, 2, 3, 1, 0)
	if l := Digits(d); !slices.Equal(l, want) {
		t.Error("P3.1: the digits of 27 0 .. 0 228:", l)
	}
	if d != (api.Digest{0: 27, 15: 0xe4}) {
		t.Error("P3.1: Digits changed its digest:", d)
	}
}

func TestP3_1DigitsOfBytes(t *testing.T) {
	for b := range 256 {
		for at := range digestSize {
			d := filled(byte(b * 7))
			d[at] = byte(b)
			if l := Digits(d); !slices.Equal(l, digitsOf(string(d[:]))) {
				t.Fatalf("P3.1: the digits of %x: %v", d, l)
			}
		}
	}
	r := rand.New(rand.NewSource(31))
	for range 2000 {
		d := randomDigest(r)
		if l := Digits(d); !slices.Equal(l, digitsOf(string(d[:]))) {
			t.Fatalf("P3.1: the digits of %x: %v", d, l)
		}
	}
}

func TestP3_1DigitsAreNew(t *testing.T) {
	one, two := Digits(filled(27)), Digits(filled(27))
	for i := range one {
		one[i] = 9
	}
	if !slices.Equal(two, Digits(filled(27))) || slices.Contains(two, 9) {
		t.Error("P3.1: two lists of digits share memory")
	}
}

func TestP3_1Public(t *testing.T) {
	want := map[string][7]string{
		seed: {
			"903394918169e22fdc0497315c5acb4d", "bbd52957c2fd4c2c325f26b5c9fc5e89", "743e52c9e053db6298f2ce0f963f3182",
			"bf58c23da61150326435ea0f548c2820", "6f46ec6d2fd48d95744882f2cce3cf31", "2038e7b3b3e32f82c53bbba2c8d42c98",
			"b38a107e4bebfd7ed83b3211b50ef24d",
		},
		other: {
			"3eb7f62a4e0c63cd4af828f0c4d00e7d", "be1b840f11a6724075feb0c15431ec66", "59ae10cffe709090f78cab8c2223bbc2",
			"19d29a9315d7a4dd90c51656fde6305c", "b5021c7ec118850c0ec333fccd3ec9d2", "3aeec8889ec8779b9917ce3cc4fa9579",
			"b732cdd946bc3310fe4a1ce08c39d5f5",
		},
	}
	for s, keys := range want {
		tree := levels(s, 6)
		for height, key := range keys {
			p := publicKey(t, s, height)
			if hex.EncodeToString(p[:]) != key {
				t.Errorf("P3.1: the public key of the height %d is %x instead of %s", height, p, key)
			}
			if string(p[:]) != tree[height][0] {
				t.Errorf("P3.1: the root of the height %d is %x instead of %x", height, p, tree[height][0])
			}
		}
	}
}

func TestP3_1PublicErrors(t *testing.T) {
	for _, x := range []struct {
		seed   string
		height int
		want   api.Errno
	}{
		{"", 0, api.ErrArg}, {seed[:31], 0, api.ErrArg}, {seed + "x", 0, api.ErrArg}, {seed + seed, 2, api.ErrArg},
		{seed, -1, api.ErrArg}, {seed, 7, api.ErrArg}, {seed, 64, api.ErrArg}, {seed, 65, api.ErrArg},
		{seed, math.MinInt, api.ErrArg}, {seed, math.MaxInt, api.ErrArg}, {"x", 9, api.ErrArg},
		{seed, 0, api.OK}, {seed, 6, api.OK}, {strings.Repeat("\x00", 32), 1, api.OK}, {strings.Repeat("\xff", 32), 1, api.OK},
	} {
		p, e := Public(x.seed, x.height)
		if e != x.want {
			t.Errorf("P3.1: Public of %d bytes and the height %d: error %d instead of %d", len(x.seed), x.height, e, x.want)
		}
		if (p == api.Digest{}) != (e != api.OK) {
			t.Errorf("P3.1: Public of %d bytes and the height %d: %x with the error %d", len(x.seed), x.height, p, e)
		}
	}
}

func TestP3_2Digest(t *testing.T) {
	p := digest(counting(0, 1)[:16])
	for _, x := range []struct {
		index         int
		message, want string
	}{
		{0, "", "b0e0b74f45bd19aba93e5f4f69cd48a4"},
		{1, "m", "a0e0a42ad83e8e7bc9270adf5774b098"},
		{-1, "\xff", "a2e44f10787c9e338e4acce0ac096113"},
		{math.MaxInt, strings.Repeat("a", 300), "7bde9c80667884b10704f7e250bdcb12"},
		{math.MinInt, "", "1757f7ce7c80c97c5e6ad2018e8fbc7c"},
	} {
		if d := Digest(p, x.index, x.message); hex.EncodeToString(d[:]) != x.want {
			t.Errorf("P3.2: Digest for %d and %d bytes is %x instead of %s", x.index, len(x.message), d, x.want)
		}
	}
	for _, index := range []int{0, 1, 63, 64, 255, 256, 65535, -1, -2, -256} {
		for _, message := range []string{"", "\x00", "m", string(p[:]), strings.Repeat("ab", 200)} {
			if d := Digest(p, index, message); string(d[:]) != of(4, string(p[:]), number(index), message) {
				t.Errorf("P3.2: Digest for %d and %q is %x", index, message, d)
			}
		}
	}
	// a message that cannot be signed has a digest as well
	long := strings.Repeat("a", maxMessage+1)
	h := sha256.Sum256([]byte("\x04\x81\x10" + string(p[:]) + "\x81\x01\x80" + "\x83\x10\x00\x01" + long))
	if d := Digest(p, 0, long); d != api.Digest(h[:16]) {
		t.Errorf("P3.2: Digest of a long message is %x instead of %x", d, h[:16])
	}
}

func TestP3_3Vectors(t *testing.T) {
	for _, x := range []struct {
		seed          string
		height, index int
		message       string
		size          int
		want          string
	}{
		{seed, 0, 0, "", 1089, "ac98d44f8db8cae95e83fd820087180047bc18d061c81e28846851ae52e01c93"},
		{seed, 1, 1, "m", 1106, "25d6a5a83cb8beac75462b2a99b142488ab1b423f968718c1589107fb75cc8e2"},
		{seed, 3, 5, "\xff\x00 message", 1138, "8bb3d79839a0f965476b055fe6720d94d32359e555fa070620b437f8d4373a5f"},
		{other, 6, 63, strings.Repeat("x", 1000), 1186, "c8fcd5b4de907543a9025f5fb821d909446588e6b3ea44da1c35feb508bdd01d"},
		{other, 4, 6, "", 1154, "8a98e837b6b4ba229ecadf508794bc1f59849327ad206166572aa93eb6987bae"},
	} {
		s := signed(t, x.seed, x.height, x.index, x.message)
		h := sha256.Sum256([]byte(s))
		if len(s) != x.size || hex.EncodeToString(h[:]) != x.want {
			t.Errorf("P3.3: Sign with the height %d and the index %d: %d bytes with the hash %x", x.height, x.index, len(s), h)
		}
	}
	s := signed(t, seed, 1, 1, "m")
	if !strings.HasPrefix(s, fromHex(t, "81011d483093e0fffd20f003b805e1294249")) || !strings.HasSuffix(s, fromHex(t, "903394918169e22fdc0497315c5acb4d")) {
		t.Errorf("P3.3: the signature of m begins with %x and ends with %x", s[:18], s[len(s)-16:])
	}
}

func TestP3_3Sign(t *testing.T) {
	for height := range 7 {
		tree := levels(other, height)
		for index := range 1 << height {
			message := strings.Repeat("m", index)
			s := signed(t, other, height, index, message)
			if s != signature(other, tree, index, message) {
				t.Errorf("P3.3: Sign with the height %d and the index %d is %x", height, index, s)
			}
		}
	}
}

func TestP3_3SignErrors(t *testing.T) {
	long := strings.Repeat("a", maxMessage+1)
	for _, x := range []struct {
		seed          string
		height, index int
		message       string
		want          api.Errno
	}{
		{seed, 1, 2, "m", api.ErrSpent}, {seed, 1, -1, "m", api.ErrSpent}, {seed, 0, 1, "", api.ErrSpent},
		{seed, 6, 64, "", api.ErrSpent}, {seed, 6, math.MaxInt, "", api.ErrSpent}, {seed, 6, math.MinInt, "", api.ErrSpent},
		{seed, 1, 1 << 32, "", api.ErrSpent}, {seed, 5, 32, "", api.ErrSpent},
		{seed, 1, 1, long, api.ErrLimit}, {seed, 1, 1, long[1:], api.OK}, {seed, 6, 63, "", api.OK},
		{"", 0, 0, "", api.ErrArg}, {seed[1:], 0, 0, "", api.ErrArg}, {seed + "x", 0, 0, "", api.ErrArg},
		{seed, -1, 0, "", api.ErrArg}, {seed, 7, 0, "", api.ErrArg},
		{seed, math.MinInt, 0, "", api.ErrArg}, {seed, math.MaxInt, 0, "", api.ErrArg},
		// several errors: the one named first
		{seed[1:], 1, 2, long, api.ErrArg}, {seed, 7, -1, long, api.ErrArg}, {seed, 1, 2, long, api.ErrSpent},
	} {
		s, e := Sign(x.seed, x.height, x.index, x.message)
		if e != x.want || (s == "") != (e != api.OK) {
			t.Errorf("P3.3: Sign(%d bytes, %d, %d, %d bytes): %d bytes, error %d instead of %d", len(x.seed), x.height, x.index, len(x.message), len(s), e, x.want)
		}
	}
}

func TestP3_4Verify(t *testing.T) {
	p := publicKey(t, seed, 1)
	s := signed(t, seed, 1, 1, "m")
	if index, e := Verify(p, 1, "m", s); index != 1 || e != api.OK {
		t.Errorf("P3.4: the example: %d, error %d", index, e)
	}
	if index, e := Verify(p, 1, "n", s); index != 0 || e != api.ErrSign {
		t.Errorf("P3.4: the example with n: %d, error %d", index, e)
	}
	// signatures that package sign did not make
	for height := range 5 {
		tree := levels(seed, height)
		for index := range 1 << height {
			s := signature(seed, tree, index, "text")
			if got, e := Verify(digest(tree[height][0]), height, "text", s); got != index || e != api.OK {
				t.Errorf("P3.4: the height %d and the index %d: %d, error %d", height, index, got, e)
			}
		}
	}
}

func TestP3_4VerifyErrors(t *testing.T) {
	p := publicKey(t, seed, 2)
	s := signed(t, seed, 2, 3, "m")
	rest := s[len(number(3)):]
	long := strings.Repeat("a", maxMessage+1)
	for i, x := range []struct {
		height             int
		message, signature string
		want               api.Errno
	}{
		{7, "", "", api.ErrArg}, {-1, "m", s, api.ErrArg}, {7, "m", s, api.ErrArg}, {64, "m", s, api.ErrArg},
		{math.MinInt, "m", s, api.ErrArg}, {math.MaxInt, "m", s, api.ErrArg}, {7, long, s, api.ErrArg},
		{2, long, s, api.ErrLimit}, {2, long, "", api.ErrLimit}, {2, long[1:], s, api.ErrSign}, {2, long[1:], "", api.ErrMore},
		// the errors of the index
		{2, "m", "", api.ErrMore}, {2, "m", "\x81", api.ErrMore}, {2, "m", "\x82\x01", api.ErrMore},
		{2, "m", "\x88\x01\x02\x03\x04\x05\x06\x07", api.ErrMore},
		{2, "m", "\x89", api.ErrForm}, {2, "m", "\x00" + rest, api.ErrForm}, {2, "m", "\x81\x00" + rest, api.ErrForm},
		{2, "m", "\x82\x00\x03" + rest, api.ErrForm}, {2, "m", "\x88" + strings.Repeat("\xff", 8) + rest, api.ErrForm},
		{2, "m", "\xff" + rest, api.ErrForm},
		// an index that the tree does not have
		{2, "m", number(4) + rest, api.ErrForm}, {2, "m", number(-1) + rest, api.ErrForm}, {2, "m", number(64) + rest, api.ErrForm},
		{2, "m", "\x88\x7f" + strings.Repeat("\xff", 7) + rest, api.ErrForm},
		{2, "m", "\x77\x80" + strings.Repeat("\xff", 7) + rest, api.ErrForm},
		{0, "m", number(1) + rest[:68*16], api.ErrForm}, {1, "m", number(2) + rest[:69*16], api.ErrForm},
		// another length
		{2, "m", number(3), api.ErrForm}, {2, "m", s[:len(s)-1], api.ErrForm}, {2, "m", s + "\x00", api.ErrForm},
		{2, "m", s[:len(s)-16], api.ErrForm}, {2, "m", s + rest[:16], api.ErrForm}, {1, "m", s, api.ErrForm}, {3, "m", s, api.ErrForm},
		// another index, message or content
		{2, "m", number(2) + rest, api.ErrSign}, {2, "m", number(0) + rest, api.ErrSign}, {2, "", s, api.ErrSign},
		{2, "m\x00", s, api.ErrSign}, {2, "m", number(3) + strings.Repeat("\x00", 70*16), api.ErrSign},
		{1, "m", number(1) + rest[:69*16], api.ErrSign}, {3, "m", s + rest[:16], api.ErrSign},
	} {
		index, e := Verify(p, x.height, x.message, x.signature)
		if e != x.want || index != 0 {
			t.Errorf("P3.4: row %d, the height %d: %d, error %d instead of %d", i, x.height, index, e, x.want)
		}
	}
}

func TestP3_4OtherKeys(t *testing.T) {
	p, s := publicKey(t, seed, 2), signed(t, seed, 2, 1, "m")
	for bit := range 8 * len(p) {
		q := p
		q[bit/8] ^= 1 << (bit % 8)
		if index, e := Verify(q, 2, "m", s); index != 0 || e != api.ErrSign {
			t.Errorf("P3.4: the public key with another bit %d: %d, error %d", bit, index, e)
		}
	}
	if index, e := Verify(publicKey(t, other, 2), 2, "m", s); index != 0 || e != api.ErrSign {
		t.Errorf("P3.4: the public key of another seed: %d, error %d", index, e)
	}
	if index, e := Verify(api.Digest{}, 2, "m", s); index != 0 || e != api.ErrSign {
		t.Errorf("P3.4: no public key: %d, error %d", index, e)
	}
}

// Each byte of a signature is needed: also each node beside the way.
func TestP3_4ChangedSignatures(t *testing.T) {
	p, s := publicKey(t, seed, 3), signed(t, seed, 3, 6, "m")
	for at := range len(s) {
		for _, flip := range []byte{1, 128, 255} {
			b := []byte(s)
			b[at] ^= flip
			if index, e := Verify(p, 3, "m", string(b)); index != 0 || e == api.OK {
				t.Errorf("P3.4: byte %d changed by %d: %d, error %d", at, flip, index, e)
			}
		}
	}
	// values, or nodes beside the way, that stand at another place
	for n := range 68 + 3 - 1 {
		at := len(number(6)) + 16*n
		swapped := s[:at] + s[at+16:at+32] + s[at:at+16] + s[at+32:]
		if index, e := Verify(p, 3, "m", swapped); index != 0 || e != api.ErrSign {
			t.Errorf("P3.4: the parts %d and %d exchanged: %d, error %d", n, n+1, index, e)
		}
	}
}

// The signature of one index or message does not serve for another one, although its values are of the same chains.
func TestP3_4OtherSignatures(t *testing.T) {
	p := publicKey(t, seed, 2)
	for i := range 4 {
		for j := range 4 {
			s := number(j) + signed(t, seed, 2, i, "m")[len(number(i)):]
			index, e := Verify(p, 2, "m", s)
			if i == j && (index != i || e != api.OK) || i != j && (index != 0 || e != api.ErrSign) {
				t.Errorf("P3.4: the signature of %d as that of %d: %d, error %d", i, j, index, e)
			}
		}
	}
}

func TestP3_5Accepts(t *testing.T) {
	messages := []string{"", "m", "\x00", "\xff\xfe", strings.Repeat("long ", 3000), strings.Repeat("a", maxMessage)}
	for height := range 7 {
		p := publicKey(t, other, height)
		for index := range 1 << height {
			message := messages[(height+index)%len(messages)]
			s := signed(t, other, height, index, message)
			if got, e := Verify(p, height, message, s); got != index || e != api.OK {
				t.Errorf("P3.5: the height %d, the index %d and %d bytes: %d, error %d", height, index, len(message), got, e)
			}
		}
	}
}

func TestP3_5Lengths(t *testing.T) {
	for height := range 3 {
		p := publicKey(t, seed, height)
		for _, index := range []int{0, 1<<height - 1} {
			s := signed(t, seed, height, index, "m")
			if want := len(number(index)) + (68+height)*16; len(s) != want {
				t.Errorf("P3.5: a signature of %d bytes instead of %d", len(s), want)
			}
			long := s + strings.Repeat("\x00", 40)
			for n := range len(long) {
				if got, e := Verify(p, height, "m", long[:n]); n != len(s) && (got != 0 || e == api.OK) {
					t.Errorf("P3.5: %d bytes instead of %d: %d, error %d", n, len(s), got, e)
				}
			}
		}
	}
}

func TestP3_5EqualCalls(t *testing.T) {
	if signed(t, seed, 3, 2, "m") != signed(t, seed, 3, 2, "m") || publicKey(t, seed, 3) != publicKey(t, seed, 3) {
		t.Error("P3.5: equal calls have different results")
	}
}

// randomDigest returns some digest.
func randomDigest(r *rand.Rand) api.Digest {
	var d api.Digest
	r.Read(d[:])
	return d
}

// crossing reports whether a digit of a is less than that of b at the same place, and another one is greater.
func crossing(a, b []int) bool {
	less, greater := false, false
	for i := range a {
		less = less || a[i] < b[i]
		greater = greater || a[i] > b[i]
	}
	return less && greater
}

func TestP3_6Crossing(t *testing.T) {
	check := func(d, other api.Digest) {
		if d != other && !crossing(Digits(d), Digits(other)) {
			t.Errorf("P3.6: the digits of %x and of %x", d, other)
		}
	}
	r := rand.New(rand.NewSource(36))
	for range 3000 {
		d := randomDigest(r)
		check(d, randomDigest(r))
		// digests whose digits are nowhere less, so that the checksum has to differ downward
		for _, mask := range []byte{1, 2, 3, 0x40, 0x80, 0xff} {
			up := d
			up[r.Intn(len(up))] |= mask
			check(d, up)
			check(up, d)
		}
	}
	for value := range 256 {
		check(filled(byte(value)), filled(0))
		check(filled(byte(value)), filled(255))
	}
	// all sums: each further digit that is raised lowers the checksum
	d := api.Digest{}
	for i := range 64 {
		for range 3 {
			up := d
			up[i/4] += 1 << (6 - i%4*2)
			check(d, up)
			check(api.Digest{}, up)
			d = up
		}
	}
	if d != filled(255) {
		t.Errorf("P3.6: the test ends with %x", d)
	}
}

// A signature whose values are advanced is one of no other message.
func TestP3_6Advanced(t *testing.T) {
	p, s := publicKey(t, seed, 0), signed(t, seed, 0, 0, "m")
	digits := Digits(Digest(p, 0, "m"))
	at := len(number(0))
	for n := range 50 {
		message := fmt.Sprint("m", n)
		forged := s[:at]
		for c, want := range Digits(Digest(p, 0, message)) {
			v := s[at+16*c : at+16*c+16]
			for height := digits[c]; height < want; height++ {
				v = of(5, numbers(0, c, height), v)
			}
			forged += v
		}
		if index, e := Verify(p, 0, message, forged); index != 0 || e != api.ErrSign {
			t.Errorf("P3.6: the signature of m, advanced for %s: %d, error %d", message, index, e)
		}
	}
}

// P1: whatever the arguments are, the functions return.
func TestP1AllArguments(t *testing.T) {
	ints := []int{math.MinInt, -65, -1, 0, 1, 3, 6, 7, 63, 64, 1 << 40, math.MaxInt}
	texts := []string{"", "\x80", "\x81", "\x81\x01", seed, strings.Repeat("\x80", 1+68*16), strings.Repeat("\xff", 2000)}
	for _, height := range ints {
		for _, text := range texts {
			Public(text, height)
			for _, message := range texts {
				Verify(api.Digest{}, height, message, text)
			}
			for _, index := range ints {
				Sign(text, height, index, "m")
				Digest(api.Digest{}, index, text)
			}
		}
	}
}

// Package wire encodes values as bytes (layer 1, shared/doc/01-wire.md).
package wire

import (
	"math"

	"dactyl/api"
)

const (
	zero  = 128 // the first byte of an integer n >= 0 is zero plus the number of bytes that follow
	most  = 8   // the greatest number of bytes that follow the first byte of an integer
	upper = 56  // the place of the most significant byte of an integer
	minus = 255 // the encoding of n < 0 is that of -1 - n with each byte subtracted from minus
)

// Int returns the encoding of an integer.
func Int(n int) []byte {
	return addInt(make([]byte, 0, 1+most), n)
}

// GetInt decodes an integer at the beginning of a byte sequence.
func GetInt(b []byte) (int, int, api.Errno) {
	if len(b) == 0 {
		return 0, 0, api.ErrMore
	}
	flip := byte(0)
	if b[0] < zero {
		flip = minus
	}
	k := int(b[0]^flip) - zero
	if k > most {
		return 0, 0, api.ErrForm
	}
	if len(b)-1 < k {
		return 0, 0, api.ErrMore
	}
	m := uint64(0)
	for _, c := range b[1 : 1+k] {
		m = m<<8 | uint64(c^flip)
	}
	if k > 0 && b[1] == flip || m > math.MaxInt {
		return 0, 0, api.ErrForm
	}
	n := int(m)
	if flip != 0 {
		n = -1 - n
	}
	return n, 1 + k, api.OK
}

// Bytes returns the encoding of a byte string.
func Bytes(s string) []byte {
	return addBytes(make([]byte, 0, 1+most+len(s)), s)
}

// GetBytes decodes a byte string at the beginning of a byte sequence.
func GetBytes(b []byte) (string, int, api.Errno) {
	n, used, e := getLength(b, 1)
	if e != api.OK {
		return "", 0, e
	}
	return string(b[used : used+n]), used + n, api.OK
}

// Ints returns the encoding of a list of integers.
func Ints(l []int) []byte {
	return list(l, addInt)
}

// GetInts decodes a list of integers at the beginning of a byte sequence.
func GetInts(b []byte) ([]int, int, api.Errno) {
	return getList(b, 1, GetInt)
}

// Strings returns the encoding of a list of byte strings.
func Strings(l []string) []byte {
	return list(l, addBytes)
}

// GetStrings decodes a list of byte strings at the beginning of a byte sequence.
func GetStrings(b []byte) ([]string, int, api.Errno) {
	return getList(b, 1, GetBytes)
}

// Digests returns the encoding of a list of digests.
func Digests(l []api.Digest) []byte {
	return list(l, func(b []byte, d api.Digest) []byte {
		return append(b, d[:]...)
	})
}

// GetDigests decodes a list of digests at the beginning of a byte sequence.
func GetDigests(b []byte) ([]api.Digest, int, api.Errno) {
	return getList(b, api.DigestSize, func(b []byte) (api.Digest, int, api.Errno) {
		// A statement of its own: in one return, d may be read before copy has filled it.
		var d api.Digest
		copy(d[:], b)
		return d, len(d), api.OK
	})
}

// addInt appends the encoding of an integer to b.
func addInt(b []byte, n int) []byte {
	flip := byte(0)
	if n < 0 {
		n, flip = -1-n, minus
	}
	first := len(b)
	b = append(b, 0)
bytes:
	for place := upper; ; place -= 8 {
		switch {
		case place < 0:
			break bytes
		case n>>place == 0: // a byte 0 at the beginning is not written
			continue bytes
		}
		b = append(b, byte(n>>place)^flip)
	}
	b[first] = byte(zero+len(b)-first-1) ^ flip
	return b
}

// addBytes appends the encoding of a byte string to b.
func addBytes(b []byte, s string) []byte {
	return append(addInt(b, len(s)), s...)
}

// list returns the encoding of a list; add appends the encoding of an element.
func list[T any](l []T, add func([]byte, T) []byte) []byte {
	b := Int(len(l))
	for _, v := range l {
		b = add(b, v)
	}
	return b
}

// getLength decodes the length of what has at least size bytes for each element.
// It divides instead of multiplying, as size times a length from outside can wrap around.
func getLength(b []byte, size int) (int, int, api.Errno) {
	n, used, e := GetInt(b)
	switch {
	case e != api.OK:
		return 0, 0, e
	case n < 0:
		return 0, 0, api.ErrForm
	case n > (len(b)-used)/size:
		return 0, 0, api.ErrMore
	}
	return n, used, api.OK
}

// getList decodes a list; get decodes an element, which has at least size bytes.
func getList[T any](b []byte, size int, get func([]byte) (T, int, api.Errno)) ([]T, int, api.Errno) {
	n, used, e := getLength(b, size)
	if e != api.OK {
		return nil, 0, e
	}
	next := func() (T, api.Errno) {
		v, k, e := get(b[used:])
		used += k
		return v, e
	}
	l := make([]T, n)
	for i := range l {
		if l[i], e = next(); e != api.OK {
			return nil, 0, e
		}
	}
	return l, used, api.OK
}

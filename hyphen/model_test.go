package hyphen

import (
	"math/rand"
	"reflect"
	"regexp"
	"slices"
	"strings"
	"testing"

	"dactyl/api"
)

var (
	patternForm = regexp.MustCompile(`^(\.?)([0-9]?(?:[a-z][0-9]?)+)(\.?)$`)
	wordForm    = regexp.MustCompile(`^[a-z]{1,32}$`)
	anyDigit    = regexp.MustCompile(`[0-9]`)
)

// modelValid says by the definition what is wrong with patterns.
func modelValid(l []string) api.Errno {
	if len(l) > 64 || slices.ContainsFunc(l, func(s string) bool { return len(s) > 16 }) {
		return api.ErrLimit
	}
	for _, s := range l {
		if !patternForm.MatchString(s) {
			return api.ErrForm
		}
	}
	for i, s := range l {
		for _, other := range l[:i] {
			if anyDigit.ReplaceAllString(s, "") == anyDigit.ReplaceAllString(other, "") {
				return api.ErrTwice
			}
		}
	}
	return api.OK
}

// modelDigit returns the digit of a pattern (without dots) after some of its letters.
func modelDigit(body string, after int) int {
	seen, digit := 0, 0
	for _, c := range body {
		if c >= 'a' {
			seen++
		} else if seen == after {
			digit = int(c - '0')
		}
	}
	return digit
}

// modelValues looks for each pattern at each place.
func modelValues(l []string, word string) []int {
	if modelValid(l) != api.OK || !wordForm.MatchString(word) {
		return nil
	}
	values := make([]int, len(word)+1)
	for _, s := range l {
		m := patternForm.FindStringSubmatch(s)
		letters := anyDigit.ReplaceAllString(m[2], "")
		for k := range word {
			if !strings.HasPrefix(word[k:], letters) || m[1] == "." && k > 0 || m[3] == "." && word[k:] != letters {
				continue
			}
			for j := range len(letters) + 1 {
				values[k+j] = max(values[k+j], modelDigit(m[2], j))
			}
		}
	}
	return values
}

func modelPoints(l []string, word string) []int {
	var points []int
	for k, v := range modelValues(l, word) {
		if k >= 2 && k <= len(word)-2 && v%2 == 1 {
			points = append(points, k)
		}
	}
	return points
}

// modelNeeded leaves out each pattern.
func modelNeeded(l []string, words []string) []int {
	var needed []int
	if modelValid(l) != api.OK {
		return nil
	}
	for i := range l {
		rest := slices.Delete(slices.Clone(l), i, i+1)
		if slices.ContainsFunc(words, func(w string) bool { return !slices.Equal(modelPoints(l, w), modelPoints(rest, w)) }) {
			needed = append(needed, i)
		}
	}
	return needed
}

// anyPattern returns a pattern of few different letters.
func anyPattern(r *rand.Rand, letters string, longest int, digits string) string {
	var b strings.Builder
	digit := func() {
		if r.Intn(2) == 0 {
			b.WriteByte(digits[r.Intn(len(digits))])
		}
	}
	if r.Intn(5) == 0 {
		b.WriteByte('.')
	}
	digit()
	for range 1 + r.Intn(longest) {
		b.WriteByte(letters[r.Intn(len(letters))])
		digit()
	}
	if r.Intn(5) == 0 {
		b.WriteByte('.')
	}
	return b.String()
}

// anyPatterns returns valid patterns, at most a number of them.
func anyPatterns(r *rand.Rand, most int, digits string) []string {
	var l []string
	letters := "abc"[:1+r.Intn(3)]
	for range r.Intn(most + 1) {
		s := anyPattern(r, letters, 1+r.Intn(5), digits)
		if modelValid(append(slices.Clone(l), s)) == api.OK {
			l = append(l, s)
		}
	}
	return l
}

func anyWord(r *rand.Rand, longest int) string {
	letters := "abc"[:1+r.Intn(3)]
	b := make([]byte, 1+r.Intn(longest))
	for i := range b {
		b[i] = letters[r.Intn(len(letters))]
	}
	return string(b)
}

// anyLongWord returns a word of up to 32 letters, or one of a length at a limit.
func anyLongWord(r *rand.Rand) string {
	switch r.Intn(4) {
	case 0:
		return anyWord(r, 5)
	case 1:
		return strings.Repeat(anyWord(r, 1), 1+r.Intn(32))
	}
	return anyWord(r, 32)
}

func TestP10_1Model(test *testing.T) {
	var check func(text string, left int)
	check = func(text string, left int) {
		if got, want := Valid([]string{text}), modelValid([]string{text}); got != want {
			test.Errorf("P10.1: Valid of %q is %d, want %d", text, got, want)
		}
		if left == 0 {
			return
		}
		for _, c := range []string{"a", "z", "1", "0", ".", "A"} {
			check(text+c, left-1)
		}
	}
	check("", 6)
	r := rand.New(rand.NewSource(101))
	seen := map[api.Errno]int{}
	for range 20000 {
		var l []string
		for range r.Intn(6) {
			s := anyPattern(r, "ab", 2, "0129")
			if r.Intn(30) == 0 {
				k := r.Intn(len(s) + 1)
				s = s[:k] + string([]byte{byte(r.Intn(256))}) + s[k:]
			}
			if r.Intn(60) == 0 {
				s = strings.Repeat(s, 17)
			}
			l = append(l, s)
		}
		got, want := Valid(l), modelValid(l)
		if got != want {
			test.Fatalf("P10.1: Valid of %q is %d, want %d", l, got, want)
		}
		seen[got]++
	}
	for _, e := range []api.Errno{api.OK, api.ErrLimit, api.ErrForm, api.ErrTwice} {
		if seen[e] < 100 {
			test.Errorf("P10.1: the error %d occurs only %d times", e, seen[e])
		}
	}
}

func TestP10_2Model(test *testing.T) {
	r := rand.New(rand.NewSource(102))
	laid := 0
	for range 5000 {
		l, word := anyPatterns(r, 12, "0123456789"), anyLongWord(r)
		got, want := Values(l, word), modelValues(l, word)
		if !slices.Equal(got, want) {
			test.Fatalf("P10.2: Values of %q with %q are %v, want %v", word, l, got, want)
		}
		if slices.Max(got) > 0 {
			laid++
		}
	}
	if laid < 2000 {
		test.Errorf("P10.2: only %d words have values", laid)
	}
}

func TestP10_3Model(test *testing.T) {
	r := rand.New(rand.NewSource(103))
	divided := 0
	for range 5000 {
		l, word := anyPatterns(r, 12, "0123456789"), anyLongWord(r)
		points := modelPoints(l, word)
		if got := Points(l, word); !slices.Equal(got, points) {
			test.Fatalf("P10.3: Points of %q with %q are %v, want %v", word, l, got, points)
		}
		var parts []string
		for i := range word {
			if i == 0 || slices.Contains(points, i) {
				parts = append(parts, "")
			}
			parts[len(parts)-1] += word[i : i+1]
		}
		if got := Parts(l, word); !slices.Equal(got, parts) {
			test.Fatalf("P10.3: Parts of %q with %q are %q, want %q", word, l, got, parts)
		}
		if len(points) > 0 {
			divided++
		}
	}
	if divided < 1000 {
		test.Errorf("P10.3: only %d words are divided", divided)
	}
}

func TestP10_4Model(test *testing.T) {
	r := rand.New(rand.NewSource(104))
	some, unneeded := 0, 0
	for range 3000 {
		l := anyPatterns(r, 12, []string{"12", "0123456789"}[r.Intn(2)])
		var words []string
		for range r.Intn(4) {
			words = append(words, anyLongWord(r))
		}
		if r.Intn(4) == 0 {
			words = append(words, "a-b", "")
		}
		got, want := Needed(l, words), modelNeeded(l, words)
		if !slices.Equal(got, want) {
			test.Fatalf("P10.4: Needed of %q with %q is %v, want %v", words, l, got, want)
		}
		if len(got) > 0 {
			some++
		}
		if len(words) > 0 && len(got) < len(l) {
			unneeded++
		}
	}
	if some < 500 || unneeded < 500 {
		test.Errorf("P10.4: only %d lists need patterns, %d do not need some", some, unneeded)
	}
}

func TestP1EqualCalls(test *testing.T) {
	r := rand.New(rand.NewSource(1))
	for range 200 {
		l := anyPatterns(r, 20, "0123456789")
		words := []string{anyLongWord(r), anyLongWord(r)}
		first := results(l, words)
		if !reflect.DeepEqual(first, results(l, words)) {
			test.Fatalf("P1: equal calls with %q and %q differ", l, words)
		}
	}
}

// results returns all results for patterns and words.
func results(l, words []string) []any {
	all := []any{Valid(l), Needed(l, words)}
	for _, w := range words {
		all = append(all, Values(l, w), Points(l, w), Parts(l, w))
	}
	return all
}

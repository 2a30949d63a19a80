package admit

import (
	"math"
	"math/rand"
	"reflect"
	"slices"
	"strings"
	"testing"

	"dactyl/api"
)

// expectTwins checks what Twins reports, in both orders.
func expectTwins(test *testing.T, t api.Tables, a, b []api.Sym, want bool) {
	test.Helper()
	if Twins(t, a, b) != want || Twins(t, b, a) != want {
		test.Errorf("P7.3, P7.6: Twins of %v and %v is %v and %v, not %v", a, b, Twins(t, a, b), Twins(t, b, a), want)
	}
}

func TestP7_3Ordinary(test *testing.T) {
	t := plain(rule("ab", api.Any, 3, 4), rule("but", api.Word, 2), rule("th", api.Start, 20), rule("ing", api.Inner, 5), rule(".", api.Any, 20), rule("o", api.Inner, 63, 1))
	for _, c := range []struct {
		a, b string
		want bool
	}{
		{"", "", true}, {"", "a", false}, {"a", "a", true}, {"a", "b", false}, {"a", "A", false}, {"A", "A", true}, {"ab", "ab", true},
		{"ab", "cd", true}, {"abab", "cdab", true}, {"abab", "abcd", true}, {"abab", "cdcd", true}, {"ab", "abcd", false}, {"Ab", "Cd", true}, {"aB", "cd", false}, {"a|b", "cd", false}, {"|ab", "|cd", false},
		{"but", "b", true}, {"But", "B", true}, {"but.", "b.", true}, {"butt", "bt", false}, {"abut", "ab", false}, {"but|a", "b|a", true}, {"1but1", "1b1", true},
		{"tha", "ta", true}, {"th", "t", false}, {"th.", "t.", false}, {"th.", "tt.", false}, {"th|a", "t|a", false}, {"-", "-", false}, {"a-", "a-", false},
		{"aing", "ae", true}, {"ing", "e", false}, {"ainging", "aee", true}, {".", "t", true}, {"..", "tt", true}, {".a", "ta", true}, {"tha", ".a", true}, {"ao", "a|a", true}, {"o", "|a", false},
		{"12", "12", true}, {"1a", "1a", true}, {"1", "a", false}, {"1|1", "1|1", true}, {"1|1", "11", false}, {"a|a", "|aa", false}, {"|-", "|-", false}, {"|", "", true},
	} {
		expectTwins(test, t, text(c.a), text(c.b), c.want)
	}
	end := plain()
	end.Digits[3], end.Digits[4], end.End = 5, 1, []byte{5}
	expectTwins(test, end, text("0a"), text("034"), true)
	expectTwins(test, end, text("0A"), text("034"), false)
	expectTwins(test, end, text("0.a"), text("0.34"), false)
}

func TestP7_3Invalid(test *testing.T) {
	for what, t := range invalid() {
		for _, s := range []string{"", "a"} {
			if Twins(t, text(s), text(s)) {
				test.Errorf("P7.3: Twins of tables with %s is true", what)
			}
		}
	}
	good := text("a")
	for _, c := range []api.Sym{{Lang: -1, C: 'a'}, {Lang: 2, C: 'a'}, {Lang: 256, C: 'a'}, {Lang: math.MinInt, C: 'a'}, {Lang: math.MaxInt, C: 'a'}, {C: 31}, {C: 127}, {C: 0}, {C: 255}, {C: 'a' + 128}, {Lang: 1, C: 10}} {
		for _, l := range [][]api.Sym{{c}, {good[0], c}, {c, good[0]}} {
			expectTwins(test, plain(rule(" ", api.Any, 1)), l, l, false)
			expectTwins(test, plain(), l, good, false)
			expectTwins(test, plain(), l, nil, false)
		}
	}
}

// share returns whether two sets of translations have one in common.
func shareModel(a, b map[string]bool) bool {
	for cells := range a {
		if b[cells] {
			return true
		}
	}
	return false
}

func TestP7_3Random(test *testing.T) {
	r := rand.New(rand.NewSource(73))
	twins := 0
	for range 150 {
		t := anyTables(r)
		before := copied(t)
		l := candidates(t, 3)
		if len(l) > 150 {
			r.Shuffle(len(l), func(a, b int) { l[a], l[b] = l[b], l[a] })
			l = l[:20]
		}
		for range 10 {
			l = append(l, anyText(r, 6, "aabbAB01.-"))
		}
		for range 40 {
			a, b := l[r.Intn(len(l))], l[r.Intn(len(l))]
			want := shareModel(translations(t, a, 1000), translations(t, b, 1000))
			if want && order(a, b) != 0 {
				twins++
			}
			expectTwins(test, t, a, b, want)
		}
		if !reflect.DeepEqual(t, before) {
			test.Fatal("P7.3: Twins changes its argument")
		}
	}
	if twins < 20 {
		test.Errorf("%d different texts are twins: too few to compare", twins)
	}
}

func TestP7_3Long(test *testing.T) {
	t := plain(rule("aa", api.Any, 1), rule("ab", api.Any, 3, 4), rule("but", api.Word, 2))
	long := func(s string, n int) []api.Sym { return text(strings.Repeat(s, n)) }
	expectTwins(test, t, long("ab", 1024), long("cd", 1024), true)
	expectTwins(test, t, long("ab", 1024), append(long("cd", 1023), text("ce")...), false)
	expectTwins(test, t, long("but1", 20000), long("b1", 20000), true)
	expectTwins(test, t, long("but1", 20000), long("b1", 20001), false)
	expectTwins(test, t, long("a", 500), long("a", 1000), true)
	expectTwins(test, t, long("a", 500), long("a", 1001), false)
	expectTwins(test, t, long("A", 500), long("A", 500), true)
	expectTwins(test, t, long("a|", 2048), long("a|", 2048), true)
}

func TestP7_6Same(test *testing.T) {
	r := rand.New(rand.NewSource(76))
	written := 0
	for range 200 {
		t := anyTables(r)
		for range 20 {
			l := anyText(r, 8, "aabbABcz0189.- ~")
			has := len(translations(t, l, 1000)) > 0
			if has {
				written++
			}
			if Twins(t, l, l) != has || Twins(t, l, slices.Clone(l)) != has {
				test.Fatalf("P7.6: %v has a translation: %v, but Twins of it is %v", l, has, !has)
			}
		}
	}
	if written < 100 {
		test.Errorf("%d texts have a translation: too few to compare", written)
	}
}

package cell

import (
	"math"
	"math/rand"
	"reflect"
	"slices"
	"strings"
	"testing"

	"dactyl/api"
)

const limit = 65536

// spots are the dots of a cell as its rows show them, from above; each has the left and the right one.
var spots = [3][2]int{{1, 4}, {2, 5}, {3, 6}}

// value is the bit of a dot, as the chapter says it.
func value(dot int) int {
	v := 1
	for range dot - 1 {
		v *= 2
	}
	return v
}

// dotsOf are the dots of a byte; the two highest bits do not matter.
func dotsOf(c byte) []int {
	var l []int
	for k := 1; k <= 6; k++ {
		if int(c)/value(k)%2 == 1 {
			l = append(l, k)
		}
	}
	return l
}

// drawn reports whether a page shows a dot in the column x and the row y.
func drawn(p api.Page, x, y int) bool {
	if y/3 >= len(p) || x/2 >= len(p[y/3]) {
		return false
	}
	return slices.Contains(dotsOf(p[y/3][x/2]), spots[y%3][x%2])
}

// number1 is the encoding of a number from 0 to 255, without package wire.
func number1(n int) string {
	if n == 0 {
		return "\x80"
	}
	return string([]byte{129, byte(n)})
}

// coded is the encoding of lines, without package wire.
func coded(lines ...string) string {
	s := number1(len(lines))
	for _, l := range lines {
		s += number1(len(l)) + l
	}
	return s
}

// page returns a page of these lines.
func page(lines ...string) api.Page {
	p := api.Page{}
	for _, l := range lines {
		p = append(p, []byte(l))
	}
	return p
}

// copied returns a copy of a page.
func copied(p api.Page) api.Page {
	return page(texts(p)...)
}

// texts returns the lines of a page as strings.
func texts(p api.Page) []string {
	l := []string{}
	for _, line := range p {
		l = append(l, string(line))
	}
	return l
}

// equal reports whether two pages have equal lines.
func equal(a, b api.Page) bool {
	return slices.Equal(texts(a), texts(b))
}

// anyPage returns a page of lines of all lengths; its bytes are less than most.
func anyPage(r *rand.Rand, lines, width, most int) api.Page {
	p := make(api.Page, r.Intn(lines+1))
	for i := range p {
		p[i] = make([]byte, r.Intn(width+1))
		for k := range p[i] {
			if r.Intn(3) > 0 {
				p[i][k] = byte(r.Intn(most))
			}
		}
	}
	return p
}

// anyRaster returns a raster of this size.
func anyRaster(r *rand.Rand, w, h int) api.Raster {
	bits := make([]bool, w*h)
	for i := range bits {
		bits[i] = r.Intn(2) > 0
	}
	return api.Raster{W: w, H: h, Bits: bits}
}

// full returns a raster with all dots.
func full(w, h int) api.Raster {
	return api.Raster{W: w, H: h, Bits: slices.Repeat([]bool{true}, w*h)}
}

// raised returns the number of dots of a raster.
func raised(r api.Raster) int {
	n := 0
	for _, on := range r.Bits {
		if on {
			n++
		}
	}
	return n
}

// allCells are the cells from 0 to 63.
func allCells() []byte {
	l := make([]byte, 64)
	for i := range l {
		l[i] = byte(i)
	}
	return l
}

func TestP4_1Valid(t *testing.T) {
	for b := range 256 {
		for _, l := range [][]byte{{byte(b)}, {0, byte(b)}, {byte(b), 63}, {1, byte(b), 2}} {
			if Valid(l) != (b < 64) {
				t.Errorf("P4.1: Valid of %v", l)
			}
		}
	}
	if !Valid(nil) || !Valid([]byte{}) || !Valid(allCells()) {
		t.Error("P4.1: Valid of no cells or of all cells")
	}
}

func TestP4_1Dots(t *testing.T) {
	if l := Dots(25); !slices.Equal(l, []int{1, 4, 5}) {
		t.Error("P4.1: Dots(25):", l)
	}
	for i, want := range []int{1, 2, 3, 4, 5, 6} {
		if l := Dots(1 << i); !slices.Equal(l, []int{want}) {
			t.Errorf("P4.1: Dots of the bit %d: %v", i, l)
		}
	}
	for b := range 256 {
		if l := Dots(byte(b)); !slices.Equal(l, dotsOf(byte(b))) {
			t.Errorf("P4.1: Dots(%d): %v", b, l)
		}
	}
	if len(Dots(64))+len(Dots(128))+len(Dots(192)) != 0 || len(Dots(255)) != 6 {
		t.Error("P4.1: the two highest bits matter to Dots")
	}
}

func TestP4_1Of(t *testing.T) {
	for _, x := range []struct {
		dots []int
		c    byte
		e    api.Errno
	}{
		{nil, 0, api.OK},
		{[]int{}, 0, api.OK},
		{[]int{5, 1}, 17, api.OK},
		{[]int{1, 5}, 17, api.OK},
		{[]int{6}, 32, api.OK},
		{[]int{6, 5, 4, 3, 2, 1}, 63, api.OK},
		{[]int{3, 6, 1, 4}, 45, api.OK},
		{[]int{0}, 0, api.ErrArg},
		{[]int{7}, 0, api.ErrArg},
		{[]int{-1}, 0, api.ErrArg},
		{[]int{1, 2, 8}, 0, api.ErrArg},
		{[]int{65}, 0, api.ErrArg},
		{[]int{257}, 0, api.ErrArg},
		{[]int{math.MinInt}, 0, api.ErrArg},
		{[]int{math.MaxInt}, 0, api.ErrArg},
		{[]int{1, 1}, 0, api.ErrTwice},
		{[]int{6, 1, 2, 6}, 0, api.ErrTwice},
		{[]int{1, 2, 3, 4, 5, 6, 3}, 0, api.ErrTwice},
		{[]int{1, 1, 7}, 0, api.ErrArg},
		{[]int{0, 1, 1}, 0, api.ErrArg},
		{[]int{7, 7}, 0, api.ErrArg},
	} {
		before := slices.Clone(x.dots)
		if c, e := Of(x.dots); c != x.c || e != x.e {
			t.Errorf("P4.1: Of(%v): %d, error %d", x.dots, c, e)
		}
		if !slices.Equal(before, x.dots) {
			t.Errorf("P4.1: Of changed %v", before)
		}
	}
}

func TestP4_1OfAnyOrder(t *testing.T) {
	r := rand.New(rand.NewSource(1))
	for range 3000 {
		l := r.Perm(6)[:r.Intn(7)]
		want := 0
		for i := range l {
			l[i]++
			want += value(l[i])
		}
		if c, e := Of(l); int(c) != want || e != api.OK {
			t.Fatalf("P4.1: Of(%v): %d, error %d", l, c, e)
		}
		if len(l) > 0 {
			if c, e := Of(append(l, l[r.Intn(len(l))])); c != 0 || e != api.ErrTwice {
				t.Fatalf("P4.1: Of(%v): a dot is there twice: %d, error %d", l, c, e)
			}
		}
	}
}

func TestP4_2Text(t *testing.T) {
	if s := Text([]byte{0, 1, 63}); s != " !_" {
		t.Errorf("P4.2: the example: %q", s)
	}
	if s := Text(allCells()); s != ` !"#$%&'()*+,-./0123456789:;<=>?@ABCDEFGHIJKLMNOPQRSTUVWXYZ[\]^_` {
		t.Errorf("P4.2: the characters of all cells: %q", s)
	}
	if Text(nil) != "" || Text([]byte{}) != "" {
		t.Error("P4.2: Text of no cells")
	}
	for b := 64; b < 256; b++ {
		for _, l := range [][]byte{{byte(b)}, {1, byte(b)}, {byte(b), 1}, {1, byte(b), 1}} {
			if s := Text(l); s != "" {
				t.Errorf("P4.2: Text(%v), which are no cells: %q", l, s)
			}
		}
	}
}

func TestP4_2Parse(t *testing.T) {
	if l, e := Parse(" !_"); !slices.Equal(l, []byte{0, 1, 63}) || e != api.OK {
		t.Errorf("P4.2: the example: %v, error %d", l, e)
	}
	if l, e := Parse(""); len(l) != 0 || e != api.OK {
		t.Errorf("P4.2: Parse of no characters: %v, error %d", l, e)
	}
	for b := range 256 {
		c := string([]byte{byte(b)})
		for _, s := range []string{c, "A" + c, c + "A", "A" + c + " "} {
			l, e := Parse(s)
			if b < 32 || b > 95 {
				if len(l) != 0 || e != api.ErrForm {
					t.Errorf("P4.2: Parse(%q): %v, error %d", s, l, e)
				}
				continue
			}
			if at := strings.IndexByte(s, byte(b)); e != api.OK || len(l) != len(s) || int(l[at]) != b-32 {
				t.Errorf("P4.2: Parse(%q): %v, error %d", s, l, e)
			}
		}
	}
	for _, s := range []string{"a", "é", "€", "\x00", "A\nB", "\x7f"} {
		if l, e := Parse(s); len(l) != 0 || e != api.ErrForm {
			t.Errorf("P4.2: Parse(%q): %v, error %d", s, l, e)
		}
	}
}

func TestP4_3Back(t *testing.T) {
	if a, b := Back(1), Back(14); a != 8 || b != 49 {
		t.Error("P4.3: the examples:", a, b)
	}
	exchanged := []int{0, 4, 5, 6, 1, 2, 3}
	for b := range 256 {
		want := 0
		for _, d := range dotsOf(byte(b)) {
			want += value(exchanged[d])
		}
		if c := Back(byte(b)); int(c) != want {
			t.Errorf("P4.3: Back(%d) is %d instead of %d", b, c, want)
		}
	}
}

func TestP4_4Pack(t *testing.T) {
	p, e := Pack(full(3, 1))
	if !equal(p, api.Page{{9, 1}}) || e != api.OK {
		t.Errorf("P4.4: the example: %v, error %d", p, e)
	}
	r := rand.New(rand.NewSource(2))
	for w := range 8 {
		for h := range 11 {
			for range 4 {
				checkPacked(t, anyRaster(r, w, h))
			}
			checkPacked(t, full(w, h))
		}
	}
	for _, size := range [][2]int{{256, 256}, {limit, 1}, {1, limit}, {limit, 0}, {0, limit}, {2, limit / 2}, {99, 661}} {
		checkPacked(t, anyRaster(r, size[0], size[1]))
	}
}

// checkPacked checks each dot of the cells of a valid raster.
func checkPacked(t *testing.T, r api.Raster) {
	t.Helper()
	before := slices.Clone(r.Bits)
	p, e := Pack(r)
	if e != api.OK || len(p) != (r.H+2)/3 {
		t.Fatalf("P4.4: Pack of %d by %d: %d lines, error %d", r.W, r.H, len(p), e)
	}
	for y, l := range p {
		if len(l) != (r.W+1)/2 || slices.ContainsFunc(l, func(c byte) bool { return c > 63 }) {
			t.Fatalf("P4.4: Pack of %d by %d: the line %d: %v", r.W, r.H, y, l)
		}
	}
	for y := range 3 * len(p) {
		for x := range (r.W + 1) / 2 * 2 {
			if want := x < r.W && y < r.H && r.Bits[y*r.W+x]; drawn(p, x, y) != want {
				t.Fatalf("P4.4: Pack of %d by %d: the dot in the column %d of the row %d is %t", r.W, r.H, x, y, !want)
			}
		}
	}
	if !slices.Equal(r.Bits, before) {
		t.Errorf("P4.4: Pack of %d by %d changed the raster", r.W, r.H)
	}
}

func TestP4_4PackNotValid(t *testing.T) {
	for _, r := range []api.Raster{
		{W: -1, H: 1},
		{W: 1, H: -1},
		{W: -1, H: -1, Bits: make([]bool, 1)},
		{W: -1},
		{H: -1},
		{W: 2, H: 3},
		{W: 2, H: 3, Bits: make([]bool, 5)},
		{W: 2, H: 3, Bits: make([]bool, 7)},
		{Bits: make([]bool, 1)},
		{W: 5, Bits: make([]bool, 5)},
		{W: limit + 1},
		{H: limit + 1},
		{W: limit + 1, H: 1, Bits: make([]bool, limit+1)},
		{W: 1, H: limit + 1, Bits: make([]bool, limit+1)},
		{W: 2, H: limit/2 + 1, Bits: make([]bool, limit+2)},
		{W: 257, H: 256, Bits: make([]bool, 257*256)},
		{W: 1 << 32, H: 1 << 32},
		{W: 1 << 62, H: 4},
		{W: 4, H: 1 << 62},
		{W: math.MaxInt, H: math.MaxInt, Bits: make([]bool, 1)},
		{W: math.MinInt, H: math.MinInt},
		{W: math.MinInt, H: 2},
		{W: math.MaxInt},
		{H: math.MaxInt},
	} {
		if p, e := Pack(r); len(p) != 0 || e != api.ErrArg {
			t.Errorf("P4.4: Pack of %d by %d with %d bits: %d lines, error %d", r.W, r.H, len(r.Bits), len(p), e)
		}
	}
}

func TestP4_4Unpack(t *testing.T) {
	r, e := Unpack(api.Page{{9, 1}})
	want := api.Raster{W: 4, H: 3, Bits: []bool{true, true, true, 11: false}}
	if !reflect.DeepEqual(r, want) || e != api.OK {
		t.Errorf("P4.4: the example: %v, error %d", r, e)
	}
	checkUnpacked(t, nil)
	checkUnpacked(t, page(""))
	checkUnpacked(t, page("", "", ""))
	checkUnpacked(t, page("", "\x3f", ""))
	checkUnpacked(t, page("\x01", "\x01\x00\x00", "\x20\x3f"))
	checkUnpacked(t, api.Page{allCells(), allCells()[:5], nil, allCells()[60:]})
	source := rand.New(rand.NewSource(3))
	for range 500 {
		checkUnpacked(t, anyPage(source, 6, 7, 64))
	}
}

// checkUnpacked checks each dot of the raster of a page.
func checkUnpacked(t *testing.T, p api.Page) {
	t.Helper()
	longest := 0
	for _, l := range p {
		longest = max(longest, len(l))
	}
	before := copied(p)
	r, e := Unpack(p)
	if e != api.OK || r.W != 2*longest || r.H != 3*len(p) || len(r.Bits) != r.W*r.H {
		t.Fatalf("P4.4: Unpack(%v): %d by %d with %d bits, error %d", p, r.W, r.H, len(r.Bits), e)
	}
	for i, on := range r.Bits {
		if x, y := i%r.W, i/r.W; on != drawn(p, x, y) {
			t.Fatalf("P4.4: Unpack(%v): the dot in the column %d of the row %d is %t", p, x, y, on)
		}
	}
	if !equal(p, before) {
		t.Errorf("P4.4: Unpack changed %v", before)
	}
}

func TestP4_4UnpackErrors(t *testing.T) {
	empty := func(lines int) api.Page { return make(api.Page, lines) }
	wide := func(cells int) api.Page { return api.Page{make([]byte, cells)} }
	tall := func(lines int) api.Page { return append(api.Page{{1}}, make(api.Page, lines-1)...) }
	for _, x := range []struct {
		name string
		p    api.Page
		e    api.Errno
	}{
		{"the byte 64", api.Page{{64}}, api.ErrArg},
		{"the byte 255 at the end", api.Page{{1, 2}, nil, {3, 255}}, api.ErrArg},
		{"10922 cells", wide(10922), api.OK},
		{"10923 cells", wide(10923), api.ErrLimit},
		{"40000 cells", wide(40000), api.ErrLimit},
		{"a cell and 10921 empty lines", tall(10922), api.OK},
		{"a cell and 10922 empty lines", tall(10923), api.ErrLimit},
		{"21845 empty lines", empty(21845), api.OK},
		{"21846 empty lines", empty(21846), api.ErrLimit},
		{"too many lines, of which the last one has no cell", append(tall(30000), []byte{64}), api.ErrArg},
		{"too many cells and a byte 200", append(wide(40000), []byte{200}), api.ErrArg},
	} {
		r, e := Unpack(x.p)
		if e != x.e {
			t.Errorf("P4.4: Unpack of %s: error %d instead of %d", x.name, e, x.e)
		}
		if e != api.OK && (r.W != 0 || r.H != 0 || len(r.Bits) != 0) {
			t.Errorf("P4.4: Unpack of %s: %d by %d with the error %d", x.name, r.W, r.H, e)
		}
	}
}

func TestP4_5Fits(t *testing.T) {
	sheet := func(lines, width int, c byte) api.Page {
		p := make(api.Page, lines)
		for i := range p {
			p[i] = slices.Repeat([]byte{c}, width)
		}
		return p
	}
	last := sheet(25, 40, 1)
	last[24] = append(last[24], 0)
	for _, x := range []struct {
		name string
		p    api.Page
		want bool
	}{
		{"nil", nil, true},
		{"25 lines of 40 cells 63", sheet(25, 40, 63), true},
		{"25 lines of 40 cells 0", sheet(25, 40, 0), true},
		{"26 lines of 40 cells", sheet(26, 40, 63), false},
		{"25 lines of 41 cells", sheet(25, 41, 63), false},
		{"26 empty lines", sheet(26, 0, 0), false},
		{"25 empty lines", sheet(25, 0, 0), true},
		{"a line of 41 cells 0", sheet(1, 41, 0), false},
		{"a last line of 41 cells", last, false},
		{"a byte 64", api.Page{{1, 64}}, false},
		{"a byte 255 in the last line", append(sheet(24, 40, 1), []byte{255}), false},
	} {
		if Fits(x.p) != x.want {
			t.Errorf("P4.5: Fits of %s is not %t", x.name, x.want)
		}
	}
}

func TestP4_5Count(t *testing.T) {
	for _, x := range []struct {
		p              api.Page
		filled, raised int
	}{
		{nil, 0, 0},
		{page("", ""), 0, 0},
		{api.Page{{9, 0, 1}}, 2, 3},
		{api.Page{{9}, nil, {0, 0}, {1}}, 2, 3},
		{api.Page{{64}}, 1, 0},
		{api.Page{{64, 128, 192, 255}}, 4, 6},
		{api.Page{allCells()}, 63, 192},
	} {
		if n, m := Count(x.p); n != x.filled || m != x.raised {
			t.Errorf("P4.5: Count(%v): %d, %d", x.p, n, m)
		}
	}
	for b := range 256 {
		if n, m := Count(api.Page{{byte(b)}}); n != min(b, 1) || m != len(dotsOf(byte(b))) {
			t.Errorf("P4.5: Count of the byte %d: %d, %d", b, n, m)
		}
	}
}

func TestP4_6Same(t *testing.T) {
	for _, x := range []struct {
		a, b api.Page
		want bool
	}{
		{nil, nil, true},
		{nil, page("", "\x00", ""), true},
		{page("\x01"), page("\x01\x00\x00"), true},
		{page("\x01"), page("\x01", "", "\x00\x00"), true},
		{page("\x01", "\x02"), page("\x01\x00", "\x02\x00", "\x00"), true},
		{page("", "\x01"), page("\x00\x00", "\x01"), true},
		{page("\x00\x01"), page("\x00\x01\x00"), true},
		{page("\x01"), page("\x00\x01"), false},
		{page("\x01"), page("", "\x01"), false},
		{page("\x01", "", "\x02"), page("\x01", "\x02"), false},
		{page("\x01\x00\x02"), page("\x01\x02"), false},
		{page("\x01\x02"), page("\x01"), false},
		{page("\x01"), page("\x02"), false},
		{page("\x01"), nil, false},
		{page("\x01\x02"), page("\x01", "\x02"), false},
		{page("\x40"), page("\x40\x00"), true},
		{page("\x40"), nil, false},
		{page("\xff\x00", ""), page("\xff"), true},
		{page("\x41"), page("\x01"), false},
		{page("\xc2\xa0"), page("\xc2"), false},
	} {
		before := [2]api.Page{copied(x.a), copied(x.b)}
		if Same(x.a, x.b) != x.want || Same(x.b, x.a) != x.want {
			t.Errorf("P4.6: Same(%v, %v) is not %t", x.a, x.b, x.want)
		}
		if !equal(x.a, before[0]) || !equal(x.b, before[1]) {
			t.Errorf("P4.6: Same changed %v or %v", before[0], before[1])
		}
	}
}

// canon writes the canonical form of a page, as the chapter says it; each line ends with a semicolon.
func canon(p api.Page) string {
	s := ""
	for _, l := range p {
		line := ""
		for _, c := range l {
			line += string([]byte{'a' + c>>4, 'a' + c&15})
		}
		for strings.HasSuffix(line, "aa") {
			line = line[:len(line)-2]
		}
		s += line + ";"
	}
	for s == ";" || strings.HasSuffix(s, ";;") {
		s = s[:len(s)-1]
	}
	return s
}

func TestP4_6SameOfAnyPages(t *testing.T) {
	r := rand.New(rand.NewSource(4))
	found := map[bool]int{}
	for range 20000 {
		a, b := anyPage(r, 3, 2, 2), anyPage(r, 3, 2, 2)
		want := canon(a) == canon(b)
		found[want]++
		if Same(a, b) != want {
			t.Fatalf("P4.6: Same(%v, %v) is not %t", a, b, want)
		}
	}
	if found[true] < 100 || found[false] < 100 {
		t.Error("P4.6: the pages of this test are too much alike:", found)
	}
}

func TestP4_6Encode(t *testing.T) {
	for _, x := range []struct {
		p    api.Page
		want string
	}{
		{nil, "\x80"},
		{page(""), "\x81\x01\x80"},
		{api.Page{{9, 0, 1}}, "\x81\x01\x81\x03\x09\x00\x01"},
		{api.Page{{0}, nil, {255, 64}}, coded("\x00", "", "\xff\x40")},
		{page("\x00", ""), coded("\x00", "")},
	} {
		if b := Encode(x.p); string(b) != x.want {
			t.Errorf("P4.6: Encode(%v): %v instead of %v", x.p, b, []byte(x.want))
		}
	}
}

func TestP4_6Decode(t *testing.T) {
	for _, x := range []struct {
		b    string
		want api.Page
		used int
		e    api.Errno
	}{
		{"\x80", nil, 1, api.OK},
		{"\x80\x01\x02", nil, 1, api.OK},
		{coded("\x09\x00\x01", "", "\x3f"), page("\x09\x00\x01", "", "\x3f"), 11, api.OK},
		{coded("\x00", "", "\x00\x00") + "more", page("\x00", "", "\x00\x00"), 10, api.OK},
		{coded("\x40\xff"), page("\x40\xff"), 6, api.OK},
		{"", nil, 0, api.ErrMore},
		{"\x81", nil, 0, api.ErrMore},
		{"\x81\x02\x80", nil, 0, api.ErrMore},
		{"\x81\x01\x81\x03\x09\x00", nil, 0, api.ErrMore},
		{"\x81\x00", nil, 0, api.ErrForm},
		{"\x7f", nil, 0, api.ErrForm},
		{"\x00", nil, 0, api.ErrForm},
		{"\x81\x01\x7f", nil, 0, api.ErrForm},
		{"\x81\x02\x80\x89", nil, 0, api.ErrForm},
		{"\x88\x7f\xff\xff\xff\xff\xff\xff\xff\x80", nil, 0, api.ErrMore},
	} {
		p, n, e := Decode([]byte(x.b))
		if !equal(p, x.want) || n != x.used || e != x.e {
			t.Errorf("P4.6: Decode(%q): %v, %d, error %d", x.b, p, n, e)
		}
	}
}

func TestP4_7Dots(t *testing.T) {
	for _, c := range allCells() {
		if d, e := Of(Dots(c)); d != c || e != api.OK {
			t.Errorf("P4.7: Of(Dots(%d)): %d, error %d", c, d, e)
		}
		if d := Back(Back(c)); d != c {
			t.Errorf("P4.7: Back(Back(%d)) is %d", c, d)
		}
		l := Dots(c)
		for i := range l {
			l[i] = 1 + (l[i]+2)%6 // 1 and 4, 2 and 5, 3 and 6 are exchanged
		}
		slices.Sort(l)
		if m := Dots(Back(c)); !slices.Equal(m, l) {
			t.Errorf("P4.7: the dots of Back(%d) are %v instead of %v", c, m, l)
		}
	}
}

func TestP4_8UnpackOfPack(t *testing.T) {
	source := rand.New(rand.NewSource(5))
	for w := 1; w < 9; w++ {
		for h := 1; h < 11; h++ {
			r := anyRaster(source, w, h)
			p, e := Pack(r)
			got, f := Unpack(p)
			want := api.Raster{W: w + w%2, H: h}
			for want.H%3 != 0 {
				want.H++
			}
			for y := range want.H {
				for x := range want.W {
					want.Bits = append(want.Bits, x < w && y < h && r.Bits[y*w+x])
				}
			}
			if e != api.OK || f != api.OK || !reflect.DeepEqual(got, want) {
				t.Errorf("P4.8: Unpack(Pack) of %v: %v, errors %d and %d", r, got, e, f)
			}
			if _, n := Count(p); n != raised(r) {
				t.Errorf("P4.8: Pack of %v has %d dots", r, n)
			}
		}
	}
}

// With the column or the rows added, these rasters are too large.
func TestP4_8NoRasterAnyMore(t *testing.T) {
	for _, size := range [][2]int{{1, limit}, {limit, 1}, {256, 256}, {13107, 5}} {
		r := full(size[0], size[1])
		p, e := Pack(r)
		if _, n := Count(p); e != api.OK || n != raised(r) {
			t.Errorf("P4.8: Pack of %v: %d dots, error %d", size, n, e)
		}
		if back, e := Unpack(p); e != api.ErrLimit || back.W != 0 || back.H != 0 || len(back.Bits) != 0 {
			t.Errorf("P4.8: Unpack(Pack) of %v: %d by %d, error %d", size, back.W, back.H, e)
		}
	}
}

func TestP4_8PackOfUnpack(t *testing.T) {
	source := rand.New(rand.NewSource(6))
	for range 2000 {
		p := anyPage(source, 5, 5, 64)
		r, e := Unpack(p)
		again, f := Pack(r)
		if e != api.OK || f != api.OK || !Same(again, p) || canon(again) != canon(p) {
			t.Fatalf("P4.8: Pack(Unpack(%v)): %v, errors %d and %d", p, again, e, f)
		}
	}
}

func TestP4_9Written(t *testing.T) {
	source := rand.New(rand.NewSource(7))
	for range 1000 {
		l := make([]byte, source.Intn(50))
		for i := range l {
			l[i] = byte(source.Intn(64))
		}
		if m, e := Parse(Text(l)); !slices.Equal(m, l) || e != api.OK {
			t.Fatalf("P4.9: Parse(Text(%v)): %v, error %d", l, m, e)
		}
		s := make([]byte, source.Intn(4))
		for i := range s {
			s[i] = byte(28 + source.Intn(72))
		}
		if m, e := Parse(string(s)); e == api.OK && Text(m) != string(s) {
			t.Fatalf("P4.9: Text(Parse(%q)): %q", s, Text(m))
		}
	}
}

func TestP4_10Bytes(t *testing.T) {
	source := rand.New(rand.NewSource(8))
	for range 300 {
		p := anyPage(source, 6, 9, 256)
		b := Encode(p)
		for _, more := range []string{"", "\x00", "\x80", string(b)} {
			q, n, e := Decode(append(slices.Clone(b), more...))
			if !equal(q, p) || n != len(b) || e != api.OK {
				t.Fatalf("P4.10: Decode(Encode(%v)) with %q after it: %v, %d, error %d", p, more, q, n, e)
			}
		}
		for n := range b {
			if q, used, e := Decode(b[:n]); e == api.OK || len(q) != 0 || used != 0 {
				t.Fatalf("P4.10: Decode of %d of %d bytes: %v, %d, error %d", n, len(b), q, used, e)
			}
		}
	}
}

func TestSharesNoMemory(t *testing.T) {
	b := Encode(page("\x01\x02", "\x03"))
	p, _, _ := Decode(b)
	for i := range b {
		b[i] = 7
	}
	_ = append(p[0], 9)
	if !equal(p, page("\x01\x02", "\x03")) {
		t.Error("P4.6: a decoded page shares memory with its bytes, or its lines do:", p)
	}
	p, _ = Pack(full(2, 6))
	_ = append(p[0], 9)
	p[0][0] = 5
	if !equal(p, page("\x05", "\x3f")) {
		t.Error("P4.4: the lines of Pack share memory:", p)
	}
	l := Dots(63)
	l[0] = 9
	if m := Dots(63); m[0] != 1 {
		t.Error("P4.1: two results of Dots share memory:", m)
	}
}

// All arguments may have any value.
func TestP1AnyArguments(t *testing.T) {
	source := rand.New(rand.NewSource(9))
	for range 3000 {
		p, q := anyPage(source, 4, 5, 256), anyPage(source, 4, 5, 256)
		b := Encode(q)
		b[source.Intn(len(b))] = byte(source.Intn(256))
		Fits(p)
		Count(p)
		Same(p, q)
		Decode(b)
		if r, e := Unpack(p); e != api.OK && (e != api.ErrArg || r.W != 0 || r.H != 0 || r.Bits != nil) {
			t.Fatalf("P4.4: Unpack(%v): %v, error %d", p, r, e)
		}
		r := api.Raster{W: source.Intn(7) - 2, H: source.Intn(7) - 2, Bits: make([]bool, source.Intn(12))}
		valid := r.W >= 0 && r.H >= 0 && len(r.Bits) == r.W*r.H
		if _, e := Pack(r); (e == api.OK) != valid || e != api.OK && e != api.ErrArg {
			t.Fatalf("P4.4: Pack of %d by %d with %d bits: error %d", r.W, r.H, len(r.Bits), e)
		}
		dots := make([]int, source.Intn(5))
		for i := range dots {
			dots[i] = source.Intn(9) - 1
		}
		Of(dots)
	}
}

package dot_test

import (
	"bytes"
	"encoding/binary"
	"fmt"
	"math"
	"math/rand"
	"regexp"
	"slices"
	"strconv"
	"strings"
	"testing"
	"unsafe"

	"marshes/api"
	"marshes/dot"
	"marshes/leb"
)

const (
	top  = 1<<32 - 1
	over = 1 << 32
)

// at is a dot.
func at(site, counter int) api.Dot {
	return api.Dot{Site: site, Counter: counter}
}

// fine are dots that may be, rising: those at the bounds, and at those of a number's bytes.
func fine() []api.Dot {
	var l []api.Dot
	for _, site := range []int{0, 1, 2, 3, 7, 9, 10, 14, 15} {
		for _, counter := range []int{1, 2, 9, 10, 127, 128, 300, 16383, 16384, 1 << 20, 1<<31 - 1, 1 << 31, top - 1, top} {
			l = append(l, at(site, counter))
		}
	}
	return l
}

// wrong are dots that may not be.
func wrong() []api.Dot {
	return []api.Dot{
		{}, at(0, 0), at(15, 0), at(0, over), at(15, over), at(7, over+1), at(3, -1), at(0, -1), at(0, -top), at(0, -over), at(0, math.MaxInt), at(0, math.MinInt),
		at(16, 1), at(16, top), at(-1, 1), at(-1, top), at(-16, 1), at(17, 5), at(256, 1), at(over, 1), at(math.MaxInt, 1), at(math.MinInt, 1),
		at(16, 0), at(-1, 0), at(16, over), at(-1, over), at(-1, -1), at(math.MinInt, math.MinInt), at(math.MaxInt, math.MaxInt),
	}
}

// dots are of both.
func dots() []api.Dot {
	return append(fine(), wrong()...)
}

// P5.1: which dots may be.
func TestCheck(t *testing.T) {
	for _, d := range fine() {
		if e := dot.Check(d); e != api.OK {
			t.Errorf("%v: error %d", d, e)
		}
	}
	for _, d := range wrong() {
		if e := dot.Check(d); e != api.ErrDot {
			t.Errorf("%v: error %d", d, e)
		}
	}
	for site := -20; site < 40; site++ {
		for _, counter := range []int{-1, 0, 1, 2, top - 1, top, over, over + 1} {
			want := api.OK
			if site < 0 || site > 15 || counter < 1 || counter > top {
				want = api.ErrDot
			}
			if e := dot.Check(at(site, counter)); e != want {
				t.Errorf("site %d, counter %d: error %d", site, counter, e)
			}
		}
	}
}

// sign is -1, 0 or 1, as places stand to each other.
func sign(i, j int) int {
	if i < j {
		return -1
	}
	if i > j {
		return 1
	}
	return 0
}

// P5.1: dots are ordered by site first, then by counter; those that may not be likewise.
func TestCompare(t *testing.T) {
	rising := append([]api.Dot{at(math.MinInt, 5), at(-1, math.MinInt), at(-1, 1), at(-1, over), at(0, math.MinInt), at(0, -1), at(0, 0)}, fine()...)
	rising = append(rising, at(15, over), at(15, math.MaxInt), at(16, math.MinInt), at(16, 1), at(math.MaxInt, 0), at(math.MaxInt, math.MaxInt))
	for i, a := range rising {
		for j, b := range rising {
			if got := dot.Compare(a, b); got != sign(i, j) {
				t.Errorf("%v and %v: %d", a, b, got)
			}
		}
	}
	if dot.Compare(at(0, top), at(1, 1)) != -1 || dot.Compare(at(1, 1), at(0, top)) != 1 || dot.Compare(at(1, 1), at(1, 2)) != -1 || dot.Compare(at(10, 1), at(9, 2)) != 1 {
		t.Error("it is not by site first")
	}
}

// P5.1, P5.5: a dot's bytes, as another program writes them, and the dot of these.
func TestEncode(t *testing.T) {
	if b, e := dot.Encode(at(3, 300)); e != api.OK || !bytes.Equal(b, []byte{0x03, 0xAC, 0x02}) {
		t.Errorf("those of 3.300: %x, error %d", b, e)
	}
	if b, e := dot.Encode(at(15, top)); e != api.OK || !bytes.Equal(b, []byte{0x0F, 0xFF, 0xFF, 0xFF, 0xFF, 0x0F}) {
		t.Errorf("those of the last one: %x, error %d", b, e)
	}
	for _, d := range fine() {
		want := binary.AppendUvarint(binary.AppendUvarint(nil, uint64(d.Site)), uint64(d.Counter))
		b, e := dot.Encode(d)
		if e != api.OK || !bytes.Equal(b, want) {
			t.Errorf("%v: %x, error %d", d, b, e)
		}
		reads(t, b, d, 0)
		for size := range b {
			refuses(t, b[:size], api.ErrShort)
		}
		for _, tail := range [][]byte{{0}, {0x80}, {1, 2}, b} {
			reads(t, slices.Concat(b, tail), d, len(tail))
		}
	}
	for _, d := range wrong() {
		if b, e := dot.Encode(d); len(b) != 0 || e != api.ErrDot {
			t.Errorf("%v: %x, error %d", d, b, e)
		}
	}
}

// reads says that bytes begin with a dot's, and what is left behind it.
func reads(t *testing.T, b []byte, want api.Dot, left int) {
	t.Helper()
	s := leb.From(b)
	if d, e := dot.Decode(s); d != want || e != api.OK || s.Left() != left {
		t.Errorf("%x: %v, error %d, left %d", b, d, e, s.Left())
	}
	if rest, e := s.Raw(left); e != api.OK || !bytes.Equal(rest, b[len(b)-left:]) {
		t.Errorf("%x: %x is left, error %d", b, rest, e)
	}
}

// refuses says that bytes do not begin with a dot's.
func refuses(t *testing.T, b []byte, want api.Errno) {
	t.Helper()
	if d, e := dot.Decode(leb.From(b)); d != (api.Dot{}) || e != want {
		t.Errorf("%x: %v, error %d, not %d", b, d, e, want)
	}
}

// P5.1: bytes that are no dot's, and which error comes first.
func TestDecodeWrong(t *testing.T) {
	for _, x := range []struct {
		b []byte
		e api.Errno
	}{
		{nil, api.ErrShort}, {[]byte{}, api.ErrShort}, {[]byte{0x80}, api.ErrShort}, {[]byte{3}, api.ErrShort}, {[]byte{15, 0x80}, api.ErrShort}, {[]byte{3, 0xFF, 0xFF, 0xFF, 0xFF}, api.ErrShort},
		{[]byte{16, 1}, api.ErrMost}, {[]byte{16}, api.ErrMost}, {[]byte{0x7F, 1}, api.ErrMost}, {[]byte{0x80, 0x01, 1}, api.ErrMost}, {[]byte{16, 0}, api.ErrMost}, {[]byte{16, 0x80, 0}, api.ErrMost}, {[]byte{16, 0x80}, api.ErrMost},
		{[]byte{3, 0x80, 0x80, 0x80, 0x80, 0x10}, api.ErrMost}, {[]byte{3, 0x81, 0x80, 0x80, 0x80, 0x10}, api.ErrMost}, {[]byte{3, 0xFF, 0xFF, 0xFF, 0xFF, 0xFF, 0xFF, 0xFF, 0xFF, 0xFF, 1}, api.ErrMost}, {[]byte{3, 0x80, 0x80, 0x80, 0x80, 0x80, 0x80, 0x80, 0x80, 0x80, 1}, api.ErrMost},
		{[]byte{0x83, 0x00, 1}, api.ErrForm}, {[]byte{0x80, 0x00}, api.ErrForm}, {[]byte{3, 0x81, 0x00}, api.ErrForm}, {[]byte{3, 0x80, 0x00}, api.ErrForm}, {[]byte{0x83, 0x00, 0}, api.ErrForm}, {[]byte{3, 0xFF, 0xFF, 0xFF, 0xFF, 0x8F, 0x00}, api.ErrForm},
		{bytes.Repeat([]byte{0x80}, 10), api.ErrForm}, {append([]byte{3}, bytes.Repeat([]byte{0xFF}, 10)...), api.ErrForm}, {[]byte{3, 0x80, 0x80, 0x80, 0x80, 0x80, 0x80, 0x80, 0x80, 0x80, 2}, api.ErrForm},
		{[]byte{0, 0}, api.ErrDot}, {[]byte{3, 0}, api.ErrDot}, {[]byte{15, 0}, api.ErrDot}, {[]byte{15, 0, 1}, api.ErrDot}, {[]byte{0, 0, 0}, api.ErrDot},
	} {
		refuses(t, x.b, x.e)
	}
	for site := 16; site < 128; site++ {
		refuses(t, []byte{byte(site), 1}, api.ErrMost)
	}
	if d, e := dot.Decode(nil); d != (api.Dot{}) || e != api.ErrNil {
		t.Errorf("no Source: %v, error %d", d, e)
	}
	if d, e := dot.Decode(&leb.Source{}); d != (api.Dot{}) || e != api.ErrShort {
		t.Errorf("a Source that nobody made: %v, error %d", d, e)
	}
}

// P5.1: all bytes, three at a time: what is read has just these as its bytes, and no others.
func TestDecodeWhateverComes(t *testing.T) {
	var whole []byte
	count := 0
	for first := range 256 {
		for second := range 256 {
			for _, third := range []byte{0, 1, 2, 0x7F, 0x80, 0xFF} {
				b := []byte{byte(first), byte(second), third}
				s := leb.From(b)
				d, e := dot.Decode(s)
				if e != api.OK {
					if d != (api.Dot{}) {
						t.Fatalf("%x: error %d, and %v", b, e, d)
					}
					continue
				}
				count++
				if back, e := dot.Encode(d); e != api.OK || !bytes.Equal(back, b[:3-s.Left()]) {
					t.Fatalf("%x was read as %v, whose bytes are %x", b, d, back)
				}
				whole = append(whole, b[:3-s.Left()]...)
			}
		}
	}
	if want := 16 * (127*6 + 128*3); count != want {
		t.Errorf("%d times there was a dot, not %d", count, want)
	}
	s := leb.From(whole)
	for range count {
		if _, e := dot.Decode(s); e != api.OK {
			t.Fatalf("one behind the other: error %d", e)
		}
	}
	if s.End() != api.OK {
		t.Errorf("one behind the other: %d are left", s.Left())
	}
}

// P5.2, P5.5: a dot's text, and the dot of it.
func TestText(t *testing.T) {
	for text, d := range map[string]api.Dot{"3.300": at(3, 300), "0.1": at(0, 1), "15.1": at(15, 1), "10.10": at(10, 10), "0.4294967295": at(0, top), "15.4294967295": at(15, top), "7.1048576": at(7, 1<<20)} {
		if got := dot.Text(d); got != text {
			t.Errorf("%v: %q", d, got)
		}
		if got, e := dot.Parse(text); got != d || e != api.OK {
			t.Errorf("%q: %v, error %d", text, got, e)
		}
	}
	for _, d := range fine() {
		text := dot.Text(d)
		if text != fmt.Sprintf("%d.%d", d.Site, d.Counter) {
			t.Errorf("%v: %q", d, text)
		}
		if back, e := dot.Parse(text); back != d || e != api.OK {
			t.Errorf("%q: %v, error %d", text, back, e)
		}
	}
	for _, d := range wrong() {
		if got := dot.Text(d); got != "" {
			t.Errorf("%v: %q", d, got)
		}
		noDot(t, fmt.Sprintf("%d.%d", d.Site, d.Counter))
	}
}

// noDot says that a text is no dot's.
func noDot(t *testing.T, text string) {
	t.Helper()
	if d, e := dot.Parse(text); d != (api.Dot{}) || e != api.ErrDot {
		t.Errorf("%q: %v, error %d", text, d, e)
	}
}

// P5.2: texts that are no dot's.
func TestParseWrong(t *testing.T) {
	for _, text := range []string{
		"3.0", "03.1", "16.1", "3.4294967296",
		"", ".", "..", "...", "3", "31", "0", "3.", ".1", "3..1", "3.1.", ".3.1", "3.1.2", "3.1.1", "0.0.1", "3,1", "3 1", "3:1", "3-1",
		"00.1", "01.1", "015.1", "000.1", "3.01", "3.00", "3.001", "0.01", "0.0", "15.0", "00.00", "3.04294967295",
		"-3.1", "+3.1", "-0.1", "+0.1", "3.-1", "3.+1", "-1.1", "3.-0", "--3.1", "3-.1", "3.1-", "3.1+", "-.1", "+.1", "3.-", "3.+",
		" 3.1", "3 .1", "3. 1", "3.1 ", "3.1\n", "\t3.1", " ", ". ", " . ", "3.1\x00", "\x003.1", "3.\r1",
		"a.1", "3.a", "3a.1", "3.1a", "a3.1", "3.a1", "x", "f.1", "0x3.1", "3.0x1", "3.1e1", "1e0.1", "3.1_0", "1_0.1", "0b1.1", "3.0o7", "3.i", "NaN.1", "Inf.1", "３.1", "3.１", "٣.1", "3．1", "3·1", "\xff.1", "3.\xff",
		"16.4294967295", "15.4294967296", "15.4294967297", "15.42949672950", "15.9999999999", "15.14294967295", "150.4294967295", "115.4294967295", "20.1", "99.1", "100.1", "16.0", "16.4294967296",
		"3.9223372036854775807", "3.9223372036854775808", "3.18446744073709551615", "3.18446744073709551616", "3.18446744073709551617", "18446744073709551619.1", "4294967299.1", "3.99999999999999999999999999",
		"3." + strings.Repeat("0", 1000), "3." + strings.Repeat("1", 1000), strings.Repeat("0", 1000) + "3.1", "3.1" + strings.Repeat("0", 1<<20), "3.1" + strings.Repeat(" ", 100), strings.Repeat("3.", 1<<16), strings.Repeat(".", 1<<16),
	} {
		noDot(t, text)
	}
}

// plainParse is the chapter's sentences on a text, as a pattern and a bound.
func plainParse(pattern *regexp.Regexp, text string) (api.Dot, api.Errno) {
	parts := pattern.FindStringSubmatch(text)
	if parts == nil {
		return api.Dot{}, api.ErrDot
	}
	site, _ := strconv.ParseUint(parts[1], 10, 64)
	counter, err := strconv.ParseUint(parts[2], 10, 64)
	if err != nil || counter > top {
		return api.Dot{}, api.ErrDot
	}
	return at(int(site), int(counter)), api.OK
}

// P5.2: all texts of up to six letters out of some, and the longest texts with any byte at any place.
func TestParseWhateverComes(t *testing.T) {
	pattern := regexp.MustCompile(`\A([0-9]|1[0-5])\.([1-9][0-9]*)\z`)
	count := 0
	check := func(text string) {
		want, wantE := plainParse(pattern, text)
		d, e := dot.Parse(text)
		if d != want || e != wantE {
			t.Fatalf("%q: %v, error %d; want %v, error %d", text, d, e, want, wantE)
		}
		if e == api.OK {
			count++
			if dot.Text(d) != text {
				t.Fatalf("%q was read as %v, whose text is %q", text, d, dot.Text(d))
			}
		}
	}
	var all func(text string, left int)
	all = func(text string, left int) {
		check(text)
		if left == 0 {
			return
		}
		for _, letter := range []string{"0", "1", "5", "6", ".", "-", "+", " "} {
			all(text+letter, left-1)
		}
	}
	all("", 6)
	for _, text := range []string{"15.4294967295", "0.4294967294", "14.4294967289", "3.300", "9.9", "0.1"} {
		for place := range len(text) {
			check(text[:place] + text[place+1:])
			for n := range 256 {
				one := string([]byte{byte(n)})
				check(text[:place] + one + text[place+1:])
				check(text[:place] + one + text[place:])
				check(text + one)
			}
		}
	}
	if count < 1000 {
		t.Errorf("%d texts alone were a dot's", count)
	}
}

// plainSet is the chapter's set of a list of dots that may be.
func plainSet(l []api.Dot) []api.Dot {
	met := map[api.Dot]bool{}
	for _, d := range l {
		met[d] = true
	}
	var set []api.Dot
	for d := range met {
		set = append(set, d)
	}
	slices.SortFunc(set, func(a, b api.Dot) int {
		if a.Site != b.Site {
			return a.Site - b.Site
		}
		return a.Counter - b.Counter
	})
	return set
}

// P5.3: the set of any list, in any order, with some of them twice.
func TestSet(t *testing.T) {
	for _, none := range [][]api.Dot{nil, {}} {
		if set, e := dot.Set(none...); len(set) != 0 || e != api.OK {
			t.Errorf("of nothing: %v, error %d", set, e)
		}
	}
	if set, e := dot.Set(at(1, 2), at(0, 5), at(1, 2)); e != api.OK || !slices.Equal(set, []api.Dot{at(0, 5), at(1, 2)}) {
		t.Errorf("of 1.2, 0.5, 1.2: %v, error %d", set, e)
	}
	a, b, c := at(0, top), at(1, 1), at(1, 2)
	for _, l := range [][]api.Dot{{a}, {a, a}, {a, a, a}, {a, b, c}, {a, c, b}, {b, a, c}, {b, c, a}, {c, a, b}, {c, b, a}, {c, b, c, a, b}, {a, b, a}, {a, a, b, b, c, c}} {
		if set, e := dot.Set(l...); e != api.OK || !slices.Equal(set, plainSet(l)) {
			t.Errorf("of %v: %v, error %d", l, set, e)
		}
	}
	random := rand.New(rand.NewSource(3))
	all := fine()
	for range 300 {
		var l []api.Dot
		for range random.Intn(100) {
			l = append(l, all[random.Intn(len(all))])
		}
		set, e := dot.Set(l...)
		if e != api.OK || !slices.Equal(set, plainSet(l)) {
			t.Fatalf("of %v: %v, error %d", l, set, e)
		}
		if again, e := dot.Set(set...); e != api.OK || !slices.Equal(again, set) {
			t.Fatalf("of the set %v: %v, error %d", set, again, e)
		}
	}
}

// P5.3: a dot that may not be spoils a list, wherever it stands.
func TestSetWrong(t *testing.T) {
	for _, d := range wrong() {
		for _, l := range [][]api.Dot{{d}, {d, d}, {d, at(0, 1)}, {at(0, 1), d}, {at(0, 1), d, at(0, 1)}, {at(15, top), d, at(0, 1)}, append(fine(), d)} {
			if set, e := dot.Set(l...); len(set) != 0 || e != api.ErrDot {
				t.Errorf("of %v: %v, error %d", l, set, e)
			}
		}
	}
}

// P5.3: whether a dot is one of a list: of a set, of one that is none, and of nothing.
func TestHas(t *testing.T) {
	for _, d := range dots() {
		if dot.Has(nil, d) || dot.Has([]api.Dot{}, d) || !dot.Has([]api.Dot{d}, d) {
			t.Errorf("%v: wrong of nothing, or of it alone", d)
		}
	}
	falling := fine()
	slices.Reverse(falling)
	mixed := dots()
	rand.New(rand.NewSource(4)).Shuffle(len(mixed), func(i, j int) { mixed[i], mixed[j] = mixed[j], mixed[i] })
	for _, l := range [][]api.Dot{fine(), falling, mixed, append(mixed, mixed...), wrong(), {at(1, 2), at(0, 5), at(1, 2)}, slices.Repeat([]api.Dot{at(2, 2)}, 9)} {
		for skip := range l {
			rest := l[skip:]
			for _, d := range dots() {
				want := slices.Index(rest, d) >= 0
				if got := dot.Has(rest, d); got != want {
					t.Fatalf("%v of %v: %v", d, rest, got)
				}
			}
		}
	}
	for _, d := range []api.Dot{at(1, 3), at(2, 2), at(3, 1), at(1, 2+over), at(1+16, 2)} {
		if dot.Has([]api.Dot{at(1, 2), at(2, 1), at(2, 3), at(3, 2)}, d) {
			t.Errorf("%v is taken for one that it shares a number with", d)
		}
	}
}

// both holds Union and Less of two sets against the chapter's words.
func both(t *testing.T, a, b []api.Dot) {
	t.Helper()
	var less []api.Dot
	for _, d := range a {
		if !slices.Contains(b, d) {
			less = append(less, d)
		}
	}
	if got, e := dot.Less(a, b); e != api.OK || !slices.Equal(got, less) {
		t.Errorf("%v less %v: %v, error %d", a, b, got, e)
	}
	if got, e := dot.Union(a, b); e != api.OK || !slices.Equal(got, plainSet(slices.Concat(a, b))) {
		t.Errorf("%v and %v: %v, error %d", a, b, got, e)
	}
}

// P5.3: sets that are alike, apart, one within the other, and empty.
func TestUnionLess(t *testing.T) {
	a, b, c, d := at(0, 2), at(0, 3), at(1, 1), at(2, 1)
	for _, x := range []struct{ one, other, union, less []api.Dot }{
		{nil, nil, nil, nil},
		{[]api.Dot{}, nil, nil, nil},
		{nil, []api.Dot{a, b}, []api.Dot{a, b}, nil},
		{[]api.Dot{a, b}, nil, []api.Dot{a, b}, []api.Dot{a, b}},
		{[]api.Dot{a, b}, []api.Dot{}, []api.Dot{a, b}, []api.Dot{a, b}},
		{[]api.Dot{a, b, c}, []api.Dot{a, b, c}, []api.Dot{a, b, c}, nil},
		{[]api.Dot{a, c}, []api.Dot{b, d}, []api.Dot{a, b, c, d}, []api.Dot{a, c}},
		{[]api.Dot{b, d}, []api.Dot{a, c}, []api.Dot{a, b, c, d}, []api.Dot{b, d}},
		{[]api.Dot{a, b}, []api.Dot{c, d}, []api.Dot{a, b, c, d}, []api.Dot{a, b}},
		{[]api.Dot{c, d}, []api.Dot{a, b}, []api.Dot{a, b, c, d}, []api.Dot{c, d}},
		{[]api.Dot{a, b, c}, []api.Dot{b}, []api.Dot{a, b, c}, []api.Dot{a, c}},
		{[]api.Dot{a, b, c}, []api.Dot{a}, []api.Dot{a, b, c}, []api.Dot{b, c}},
		{[]api.Dot{a, b, c}, []api.Dot{c}, []api.Dot{a, b, c}, []api.Dot{a, b}},
		{[]api.Dot{b}, []api.Dot{a, b, c}, []api.Dot{a, b, c}, nil},
		{[]api.Dot{a, d}, []api.Dot{b, c, d}, []api.Dot{a, b, c, d}, []api.Dot{a}},
	} {
		if got, e := dot.Union(x.one, x.other); e != api.OK || !slices.Equal(got, x.union) {
			t.Errorf("%v and %v: %v, error %d", x.one, x.other, got, e)
		}
		if got, e := dot.Less(x.one, x.other); e != api.OK || !slices.Equal(got, x.less) {
			t.Errorf("%v less %v: %v, error %d", x.one, x.other, got, e)
		}
	}
	random := rand.New(rand.NewSource(6))
	for range 300 {
		both(t, some(random, fine()), some(random, fine()))
	}
}

// some are those of a list that fell to it, in their order.
func some(random *rand.Rand, l []api.Dot) []api.Dot {
	share := random.Intn(5)
	var out []api.Dot
	for _, d := range l {
		if random.Intn(4) < share {
			out = append(out, d)
		}
	}
	return out
}

// P5.3, P5.5: each two sets out of seven dots: as the words say, and each is the union of what it has alone and in common.
func TestAllSets(t *testing.T) {
	all := []api.Dot{at(0, 1), at(0, 2), at(0, top), at(1, 1), at(1, 2), at(14, top), at(15, 1)}
	var sets [][]api.Dot
	for bits := range 1 << len(all) {
		var set []api.Dot
		for i, d := range all {
			if bits>>i&1 == 1 {
				set = append(set, d)
			}
		}
		sets = append(sets, set)
	}
	for _, a := range sets {
		for _, b := range sets {
			both(t, a, b)
			alone, _ := dot.Less(a, b)
			others, _ := dot.Less(b, a)
			common, e := dot.Less(a, alone)
			if e != api.OK {
				t.Fatalf("%v less %v: error %d", a, alone, e)
			}
			if back, e := dot.Union(alone, common); e != api.OK || !slices.Equal(back, a) {
				t.Fatalf("%v, of what it has alone and in common with %v: %v, error %d", a, b, back, e)
			}
			if back, e := dot.Union(common, others); e != api.OK || !slices.Equal(back, b) {
				t.Fatalf("%v, of what it has in common with %v and alone: %v, error %d", b, a, back, e)
			}
		}
	}
}

// noSets are lists that are no sets.
func noSets() [][]api.Dot {
	l := [][]api.Dot{
		{at(0, 1), at(0, 1)}, {at(0, 2), at(0, 1)}, {at(1, 1), at(0, 2)}, {at(1, 1), at(0, 1)}, {at(0, 1), at(1, 1), at(1, 1)}, {at(0, 1), at(0, 3), at(0, 2)}, {at(0, 1), at(0, 2), at(0, 1)},
		append(fine(), at(15, top)), append(fine(), at(0, 1)), append([]api.Dot{at(0, 2)}, fine()...),
	}
	for _, d := range wrong() {
		rising := []api.Dot{d, at(0, 1), at(3, 3), at(15, top)}
		slices.SortFunc(rising, dot.Compare)
		l = append(l, []api.Dot{d}, []api.Dot{d, at(0, 1)}, []api.Dot{at(0, 1), d}, rising)
	}
	return l
}

// P5.3: lists that are no sets, on either side, and whatever the other one is.
func TestNoSets(t *testing.T) {
	refused := func(a, b []api.Dot) {
		if l, e := dot.Union(a, b); len(l) != 0 || e != api.ErrDot {
			t.Errorf("%v and %v: %v, error %d", a, b, l, e)
		}
		if l, e := dot.Less(a, b); len(l) != 0 || e != api.ErrDot {
			t.Errorf("%v less %v: %v, error %d", a, b, l, e)
		}
	}
	for _, l := range noSets() {
		for _, set := range [][]api.Dot{nil, {}, {at(0, 1)}, {at(0, 1), at(15, top)}, fine()} {
			refused(l, set)
			refused(set, l)
		}
		for _, other := range noSets() {
			refused(l, other)
		}
	}
}

// P5.3: all lists of up to three dots out of some: a list is taken just if it is its own set.
func TestAllLists(t *testing.T) {
	all := []api.Dot{at(0, 1), at(0, 2), at(1, 1), at(15, top), at(0, 0), at(16, 1), at(-1, 5), at(0, over)}
	var check func(l []api.Dot, left int)
	check = func(l []api.Dot, left int) {
		set, setE := dot.Set(l...)
		isSet := setE == api.OK && slices.Equal(set, l)
		for _, other := range [][]api.Dot{nil, {at(0, 2)}, {at(0, 1), at(1, 1), at(2, 9)}} {
			_, e1 := dot.Union(l, other)
			_, e2 := dot.Union(other, l)
			_, e3 := dot.Less(l, other)
			_, e4 := dot.Less(other, l)
			for _, e := range []api.Errno{e1, e2, e3, e4} {
				if isSet != (e == api.OK) || !isSet && e != api.ErrDot {
					t.Fatalf("%v with %v: error %d", l, other, e)
				}
			}
		}
		if left == 0 {
			return
		}
		for _, d := range all {
			check(append(slices.Clone(l), d), left-1)
		}
	}
	check(nil, 3)
}

// P5.4: what is handed in stays as it was, what lies behind it in memory too.
func TestOnlyRead(t *testing.T) {
	list := slices.Concat(noSets()[0], dots(), fine(), fine())
	kept := slices.Clone(list)
	n := len(fine())
	first := len(list) - 2*n
	a, b := list[first:first+n], list[first+n+3:first+n+60]
	dot.Set(list...)
	dot.Set(list[first+5 : first+n+9]...)
	dot.Set(list[:2]...)
	dot.Set(list[first:first]...)
	for _, d := range list[:first] {
		dot.Has(list, d)
		dot.Has(a, d)
	}
	for range 2 {
		dot.Union(a, b)
		dot.Less(a, b)
		dot.Union(a[:2], a[5:7])
		dot.Less(a[:2], a[:0])
		dot.Union(a[:2], nil)
		dot.Union(list, a)
		dot.Less(list, list)
		a, b = b, a
	}
	if !slices.Equal(list, kept) {
		t.Error("a list is changed")
	}
	memory := []byte{3, 0xAC, 2, 16, 1}
	s := leb.From(memory)
	dot.Decode(s)
	dot.Decode(s)
	if !bytes.Equal(memory, []byte{3, 0xAC, 2, 16, 1}) {
		t.Error("the bytes are changed")
	}
}

// spoil changes all of a list's memory, what it has room for too.
func spoil(l []api.Dot) {
	l = l[:cap(l)]
	for i := range l {
		l[i] = at(-9, -9)
	}
}

// P5.4: what is answered lies in memory of its own: whatever becomes of it, what was handed in stays, and the next answer is the same.
func TestNewMemory(t *testing.T) {
	list := slices.Concat(fine(), fine())
	kept := slices.Clone(list)
	n := len(fine())
	a, b := list[:n], list[n:n+40]
	for name, call := range map[string]func() ([]api.Dot, api.Errno){
		"a set":                     func() ([]api.Dot, api.Errno) { return dot.Set(a...) },
		"a set of one":              func() ([]api.Dot, api.Errno) { return dot.Set(a[:1]...) },
		"a set of nothing":          func() ([]api.Dot, api.Errno) { return dot.Set(a[:0]...) },
		"a union":                   func() ([]api.Dot, api.Errno) { return dot.Union(a, b) },
		"a union with nothing":      func() ([]api.Dot, api.Errno) { return dot.Union(a, nil) },
		"a union of nothing":        func() ([]api.Dot, api.Errno) { return dot.Union(a[:0], b) },
		"a union of nothing at all": func() ([]api.Dot, api.Errno) { return dot.Union(a[:0], b[:0]) },
		"less":                      func() ([]api.Dot, api.Errno) { return dot.Less(a, b) },
		"less nothing":              func() ([]api.Dot, api.Errno) { return dot.Less(a, nil) },
		"less nothing of much room": func() ([]api.Dot, api.Errno) { return dot.Less(a[:7], b[:0]) },
		"less itself":               func() ([]api.Dot, api.Errno) { return dot.Less(a, a) },
	} {
		got, _ := call()
		want := slices.Clone(got)
		again, _ := call()
		spoil(got)
		if next, e := call(); e != api.OK || !slices.Equal(next, want) || !slices.Equal(again, want) {
			t.Errorf("%s: another one once the first answer was changed", name)
		}
		if !slices.Equal(list, kept) {
			t.Fatalf("%s: the list is a piece of what was handed in", name)
		}
	}
	got, _ := dot.Union(a, b)
	less, _ := dot.Less(a, nil)
	spoil(list)
	if !slices.Equal(got, fine()) || !slices.Equal(less, fine()) {
		t.Error("an answer changes with what was handed in")
	}
	one, _ := dot.Encode(at(3, 300))
	clear(one[:cap(one)])
	if two, _ := dot.Encode(at(3, 300)); !bytes.Equal(two, []byte{3, 0xAC, 2}) {
		t.Errorf("bytes are kept: %x", two)
	}
	memory := []byte("15.4294967295")
	d, e := dot.Parse(unsafe.String(&memory[0], len(memory)))
	clear(memory)
	if d != at(15, top) || e != api.OK || dot.Text(d) != "15.4294967295" {
		t.Errorf("the dot of a text that changed: %v, error %d", d, e)
	}
}

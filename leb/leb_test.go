package leb_test

import (
	"bytes"
	"encoding/binary"
	"encoding/hex"
	"math"
	"math/big"
	"strings"
	"testing"

	"marshes/api"
	"marshes/leb"
)

// raw is the bytes of hex digits.
func raw(t *testing.T, text string) []byte {
	t.Helper()
	b, err := hex.DecodeString(strings.ReplaceAll(text, " ", ""))
	if err != nil {
		t.Fatal(err)
	}
	return b
}

// numbers are all those at which a number's bytes become more, and their neighbours.
func numbers() []uint64 {
	l := []uint64{0, 1, 2, 5, 99, 100, 300, 1 << 32, 1<<63 - 1, 1 << 63, math.MaxUint64 - 1, math.MaxUint64}
	for shift := 7; shift < 64; shift += 7 {
		n := uint64(1) << shift
		l = append(l, n-2, n-1, n, n+1, n|n>>3)
	}
	return l
}

func written(n uint64) []byte {
	var s leb.Sink
	return s.Number(n).All()
}

// rest is all that a Source has left, which a test reads at its end.
func rest(t *testing.T, s *leb.Source) []byte {
	t.Helper()
	b, e := s.Raw(s.Left())
	if e != api.OK || s.Left() != 0 {
		t.Fatalf("the rest: error %d, left %d", e, s.Left())
	}
	return b
}

// P1.1: a number's bytes, by the chapter's examples and edges.
func TestNumberBytes(t *testing.T) {
	for _, c := range []struct {
		n    uint64
		want string
	}{
		{0, "00"}, {1, "01"}, {127, "7F"}, {128, "80 01"}, {129, "81 01"}, {255, "FF 01"}, {256, "80 02"}, {300, "AC 02"},
		{16383, "FF 7F"}, {16384, "80 80 01"}, {1 << 40, "80 80 80 80 80 20"},
		{1<<63 - 1, "FF FF FF FF FF FF FF FF 7F"}, {1 << 63, "80 80 80 80 80 80 80 80 80 01"},
		{math.MaxUint64, "FF FF FF FF FF FF FF FF FF 01"},
	} {
		want := raw(t, c.want)
		if got := written(c.n); !bytes.Equal(got, want) {
			t.Errorf("the bytes of %d: %x, want %x", c.n, got, want)
		}
		if got := leb.Size(c.n); got != len(want) {
			t.Errorf("Size(%d): %d, want %d", c.n, got, len(want))
		}
	}
}

// P1.1: as another program writes the same form.
func TestNumberBytesPublished(t *testing.T) {
	for _, n := range numbers() {
		want := binary.AppendUvarint(nil, n)
		if got := written(n); !bytes.Equal(got, want) || leb.Size(n) != len(want) {
			t.Errorf("%d: %x of size %d, want %x", n, got, leb.Size(n), want)
		}
	}
}

// P1.1: bytes with their length, bytes alone, the Sink itself, and what was written.
func TestSink(t *testing.T) {
	var s leb.Sink
	if b := s.All(); len(b) != 0 {
		t.Errorf("a Sink that nobody made: %x", b)
	}
	if s.Number(300) != &s || s.Bytes([]byte("ab")) != &s || s.Raw([]byte("cd")) != &s {
		t.Error("a call answers another Sink")
	}
	want := raw(t, "AC 02 02 61 62 63 64")
	for range 2 {
		if b := s.All(); !bytes.Equal(b, want) {
			t.Errorf("%x, want %x", b, want)
		}
	}
	s.Bytes(nil).Raw(nil).Bytes([]byte{}).Raw([]byte{})
	if b := s.All(); !bytes.Equal(b, append(want, 0, 0)) {
		t.Errorf("with no bytes: %x", b)
	}
}

// P1.1: the length is a number, of as many bytes as it needs.
func TestSinkLongBytes(t *testing.T) {
	for _, size := range []int{127, 128, 300, 16384} {
		b := bytes.Repeat([]byte{7}, size)
		var s leb.Sink
		want := append(binary.AppendUvarint(nil, uint64(size)), b...)
		if got := s.Bytes(b).All(); !bytes.Equal(got, want) {
			t.Errorf("%d bytes: %d were written, want %d", size, len(got), len(want))
		}
	}
}

// P1.2: each answer of Number, its edges, and which error comes first; with an error all is left.
func TestSourceNumber(t *testing.T) {
	const top = math.MaxUint64
	for _, c := range []struct {
		from string
		most uint64
		n    uint64
		e    api.Errno
		left int
	}{
		{"64", 99, 0, api.ErrMost, 1},
		{"63", 99, 99, api.OK, 0},
		{"80", 99, 0, api.ErrShort, 1},
		{"80 00", 99, 0, api.ErrForm, 2},
		{"", top, 0, api.ErrShort, 0},
		{"00", 0, 0, api.OK, 0},
		{"00 00", 0, 0, api.OK, 1},
		{"01", 0, 0, api.ErrMost, 1},
		{"7F", 127, 127, api.OK, 0},
		{"80 01", 128, 128, api.OK, 0},
		{"80 01", 127, 0, api.ErrMost, 2},
		{"80 01 80", 128, 128, api.OK, 1},
		{"80 00", 0, 0, api.ErrForm, 2},
		{"FF 00", 0, 0, api.ErrForm, 2},
		{"80 80 00 01", top, 0, api.ErrForm, 4},
		{"80 80", 0, 0, api.ErrShort, 2},
		{"FF FF FF FF FF FF FF FF FF 01", top, top, api.OK, 0},
		{"FF FF FF FF FF FF FF FF FF 01 05", top, top, api.OK, 1},
		{"FF FF FF FF FF FF FF FF FF 01", top - 1, 0, api.ErrMost, 10},
		{"80 80 80 80 80 80 80 80 80 01", top, 1 << 63, api.OK, 0},
		{"80 80 80 80 80 80 80 80 80 02", top, 0, api.ErrForm, 10},
		{"80 80 80 80 80 80 80 80 80 00", top, 0, api.ErrForm, 10},
		{"FF FF FF FF FF FF FF FF FF 7F", 0, 0, api.ErrForm, 10},
		{"80 80 80 80 80 80 80 80 80", top, 0, api.ErrShort, 9},
		{"80 80 80 80 80 80 80 80 80 80", top, 0, api.ErrForm, 10},
		{"80 80 80 80 80 80 80 80 80 81", top, 0, api.ErrForm, 10},
		{"FF FF FF FF FF FF FF FF FF FF", 0, 0, api.ErrForm, 10},
		{"80 80 80 80 80 80 80 80 80 80 01", top, 0, api.ErrForm, 11},
		{"80 80 80 80 80 80 80 80 80 81 00", top, 0, api.ErrForm, 11},
	} {
		b := raw(t, c.from)
		s := leb.From(b)
		n, e := s.Number(c.most)
		if n != c.n || e != c.e || s.Left() != c.left {
			t.Errorf("Number(%d) of %s: %d, %d, left %d; want %d, %d, left %d", c.most, c.from, n, e, s.Left(), c.n, c.e, c.left)
		}
		if r := rest(t, s); !bytes.HasSuffix(b, r) || len(r) != c.left {
			t.Errorf("Number(%d) of %s: %x is left", c.most, c.from, r)
		}
	}
}

// plainNumber is the chapter's sentence on Number, word by word.
func plainNumber(b []byte, most uint64) (n uint64, used int, e api.Errno) {
	last := 0
	for last < len(b) && last < 10 && b[last] >= 128 {
		last++
	}
	if last == 10 {
		return 0, 0, api.ErrForm
	}
	if last == len(b) {
		return 0, 0, api.ErrShort
	}
	value := new(big.Int)
	for i := last; i >= 0; i-- {
		value.Add(value.Lsh(value, 7), big.NewInt(int64(b[i]%128)))
	}
	if last > 0 && b[last] == 0 || !value.IsUint64() {
		return 0, 0, api.ErrForm
	}
	if value.Cmp(new(big.Int).SetUint64(most)) > 0 {
		return 0, 0, api.ErrMost
	}
	return value.Uint64(), last + 1, api.OK
}

func checkNumber(t *testing.T, b []byte, most uint64) {
	t.Helper()
	wantN, used, wantE := plainNumber(b, most)
	s := leb.From(b)
	n, e := s.Number(most)
	if n != wantN || e != wantE || s.Left() != len(b)-used {
		t.Fatalf("Number(%d) of %x: %d, %d, left %d; want %d, %d, left %d", most, b, n, e, s.Left(), wantN, wantE, len(b)-used)
	}
	if e == api.OK && !bytes.Equal(written(n), b[:used]) {
		t.Fatalf("%x was read as %d, whose bytes are %x", b[:used], n, written(n))
	}
}

// P1.2: whatever comes, of up to two bytes; and each last byte behind any count of bytes that are not last.
func TestSourceNumberWhateverComes(t *testing.T) {
	mosts := []uint64{0, 1, 127, 128, 300, 1 << 40, math.MaxUint64}
	for _, most := range mosts {
		for one := range 256 {
			checkNumber(t, []byte{byte(one)}, most)
			for two := range 256 {
				checkNumber(t, []byte{byte(one), byte(two)}, most)
			}
			for _, front := range []byte{0x80, 0x81, 0xC0, 0xFF} {
				for count := range 13 {
					b := append(bytes.Repeat([]byte{front}, count), byte(one))
					checkNumber(t, b, most)
					checkNumber(t, append(b, 0), most)
				}
			}
		}
	}
}

// P1.2: Bytes has Number's errors, by most; then what it says has to be there.
func TestSourceBytes(t *testing.T) {
	for _, c := range []struct {
		from string
		most int
		want string
		e    api.Errno
		left int
	}{
		{"02 61 62 63", 9, "ab", api.OK, 1},
		{"02 61 62", 2, "ab", api.OK, 0},
		{"02 61 62", 1, "", api.ErrMost, 3},
		{"02 61", 9, "", api.ErrShort, 2},
		{"02 61", 1, "", api.ErrMost, 2},
		{"02", 9, "", api.ErrShort, 1},
		{"", 9, "", api.ErrShort, 0},
		{"80", 9, "", api.ErrShort, 1},
		{"82 00 61 62", 9, "", api.ErrForm, 4},
		{"FF FF FF FF FF FF FF FF FF 02 61", 9, "", api.ErrForm, 11},
		{"FF FF FF FF FF FF FF FF FF 01 61", math.MaxInt, "", api.ErrMost, 11},
		{"FF FF FF FF FF FF FF FF 7F 61", math.MaxInt, "", api.ErrShort, 10},
		{"00 61", 0, "", api.OK, 1},
		{"00 61", -1, "", api.OK, 1},
		{"00", math.MinInt, "", api.OK, 0},
		{"01 61", 0, "", api.ErrMost, 2},
		{"01 61", -1, "", api.ErrMost, 2},
		{"01 61", math.MinInt, "", api.ErrMost, 2},
		{"80", -1, "", api.ErrShort, 1},
		{"80 00", -1, "", api.ErrForm, 2},
	} {
		b := raw(t, c.from)
		s := leb.From(b)
		got, e := s.Bytes(c.most)
		if string(got) != c.want || e != c.e || s.Left() != c.left {
			t.Errorf("Bytes(%d) of %s: %q, %d, left %d; want %q, %d, left %d", c.most, c.from, got, e, s.Left(), c.want, c.e, c.left)
		}
		if r := rest(t, s); !bytes.HasSuffix(b, r) || len(r) != c.left {
			t.Errorf("Bytes(%d) of %s: %x is left", c.most, c.from, r)
		}
	}
}

// P1.2: Raw, with counts below 0 and above what is left.
func TestSourceRaw(t *testing.T) {
	for _, c := range []struct {
		from string
		n    int
		want string
		e    api.Errno
		left int
	}{
		{"abc", 2, "ab", api.OK, 1},
		{"abc", 3, "abc", api.OK, 0},
		{"abc", 4, "", api.ErrShort, 3},
		{"abc", math.MaxInt, "", api.ErrShort, 3},
		{"abc", 0, "", api.OK, 3},
		{"", 0, "", api.OK, 0},
		{"", 1, "", api.ErrShort, 0},
		{"abc", -1, "", api.ErrArg, 3},
		{"abc", math.MinInt, "", api.ErrArg, 3},
		{"", -1, "", api.ErrArg, 0},
	} {
		s := leb.From([]byte(c.from))
		got, e := s.Raw(c.n)
		if string(got) != c.want || e != c.e || s.Left() != c.left {
			t.Errorf("Raw(%d) of %q: %q, %d, left %d; want %q, %d, left %d", c.n, c.from, got, e, s.Left(), c.want, c.e, c.left)
		}
		if r := rest(t, s); string(r) != c.from[len(c.from)-c.left:] {
			t.Errorf("Raw(%d) of %q: %q is left", c.n, c.from, r)
		}
	}
}

// P1.2: errors in the middle of a stream take nothing, and the next call goes on from there.
func TestSourceGoesOnBehindErrors(t *testing.T) {
	s := leb.From(raw(t, "05 02 61 62 80 00 07"))
	if n, e := s.Number(9); n != 5 || e != api.OK {
		t.Fatal(n, e)
	}
	if b, e := s.Bytes(1); len(b) != 0 || e != api.ErrMost || s.Left() != 6 {
		t.Fatal(b, e, s.Left())
	}
	if b, e := s.Raw(7); len(b) != 0 || e != api.ErrShort || s.Left() != 6 {
		t.Fatal(b, e, s.Left())
	}
	if b, e := s.Bytes(2); string(b) != "ab" || e != api.OK || s.Left() != 3 {
		t.Fatal(b, e, s.Left())
	}
	for range 2 {
		if n, e := s.Number(9); n != 0 || e != api.ErrForm || s.Left() != 3 {
			t.Fatal(n, e, s.Left())
		}
	}
	if b := rest(t, s); !bytes.Equal(b, raw(t, "80 00 07")) {
		t.Fatalf("%x is left", b)
	}
}

// P1.3: how many are left, and whether any is.
func TestLeftAndEnd(t *testing.T) {
	s := leb.From([]byte("ab"))
	for left := 2; left > 0; left-- {
		if s.Left() != left || s.End() != api.ErrTail || s.Left() != left {
			t.Fatal(left, s.Left(), s.End())
		}
		s.Raw(1)
	}
	if s.Left() != 0 || s.End() != api.OK {
		t.Error(s.Left(), s.End())
	}
	for _, none := range [][]byte{nil, {}} {
		if s := leb.From(none); s == nil || s.Left() != 0 || s.End() != api.OK {
			t.Error("a Source of no bytes")
		}
	}
}

// P1.4: a Sink reads what it is handed, and keeps its own.
func TestSinkKeepsNothing(t *testing.T) {
	var s leb.Sink
	room := []byte("abcd")
	s.Raw(room[:2]).Bytes(room[:3])
	if string(room) != "abcd" {
		t.Errorf("what was handed in is %q now", room)
	}
	clear(room)
	const want = "ab\x03abc"
	b := s.All()
	if string(b) != want {
		t.Errorf("%q, want %q", b, want)
	}
	clear(b)
	if string(s.All()) != want {
		t.Errorf("what was answered is the Sink's own: %q", s.All())
	}
	before := s.All()
	s.Raw([]byte("x"))
	if _ = append(before, 'y'); string(s.All()) != want+"x" || string(before) != want {
		t.Errorf("%q and %q share memory", s.All(), before)
	}
}

// P1.4: a Source reads what it is handed, and answers new memory.
func TestSourceKeepsNothing(t *testing.T) {
	from := []byte("ab\x02cdef\x05")
	const all = "ab\x02cdef\x05"
	s := leb.From(from)
	one, _ := s.Raw(2)
	if string(from) != all {
		t.Errorf("what was handed in is %q now", from)
	}
	clear(from)
	_ = append(one, 'x') // spare room, if it had any of the Source's, would be what is left
	two, e := s.Bytes(2)
	if string(two) != "cd" || e != api.OK {
		t.Errorf("%q, %d: not the Source's own bytes", two, e)
	}
	_ = append(two, 'y')
	clear(one)
	three, _ := s.Raw(2)
	if string(two) != "cd" || string(three) != "ef" {
		t.Errorf("%q and %q share memory", two, three)
	}
	clear(two)
	if n, e := s.Number(5); n != 5 || e != api.OK || string(three) != "ef" {
		t.Errorf("%d, %d, %q", n, e, three)
	}
}

// P1.4: bytes that were handed in are only read, by two Sources alike.
func TestSourcesApart(t *testing.T) {
	from := []byte("\x02ab\x80")
	a, b := leb.From(from), leb.From(from)
	x, _ := a.Bytes(2)
	clear(x)
	a.Number(9)
	if y, e := b.Bytes(2); string(y) != "ab" || e != api.OK || string(from) != "\x02ab\x80" {
		t.Errorf("%q, %d, %q", y, e, from)
	}
}

// P1.5: what a Sink wrote a Source reads, in that order.
func TestWrittenIsRead(t *testing.T) {
	var s leb.Sink
	l := numbers()
	for i, n := range l {
		s.Number(n).Bytes(bytes.Repeat([]byte{byte(i)}, i*5)).Raw([]byte{byte(i), 0x80})
	}
	r := leb.From(s.All())
	for i, n := range l {
		got, e := r.Number(n)
		if got != n || e != api.OK {
			t.Fatalf("%d: %d, %d", n, got, e)
		}
		b, e := r.Bytes(i * 5)
		if e != api.OK || !bytes.Equal(b, bytes.Repeat([]byte{byte(i)}, i*5)) {
			t.Fatalf("bytes %d: %x, %d", i, b, e)
		}
		b, e = r.Raw(2)
		if e != api.OK || !bytes.Equal(b, []byte{byte(i), 0x80}) {
			t.Fatalf("raw %d: %x, %d", i, b, e)
		}
	}
	if r.End() != api.OK {
		t.Errorf("%d are left", r.Left())
	}
}

// P1.5: no number's bytes begin another one's, and a greater number has no fewer bytes.
func TestNumbersApart(t *testing.T) {
	l := numbers()
	for n := range uint64(1000) {
		l = append(l, n)
	}
	for _, m := range l {
		b := written(m)
		for _, n := range l {
			if m != n && bytes.HasPrefix(written(n), b) {
				t.Fatalf("the bytes of %d begin those of %d", m, n)
			}
			if m < n && leb.Size(m) > leb.Size(n) {
				t.Fatalf("%d has more bytes than %d", m, n)
			}
		}
	}
}

// Types: a Sink, or a Source, that nobody made has no bytes.
func TestZero(t *testing.T) {
	var s leb.Source
	if s.Left() != 0 || s.End() != api.OK {
		t.Error(s.Left(), s.End())
	}
	if n, e := s.Number(math.MaxUint64); n != 0 || e != api.ErrShort {
		t.Error(n, e)
	}
	if b, e := s.Bytes(9); len(b) != 0 || e != api.ErrShort {
		t.Error(b, e)
	}
	if b, e := s.Raw(0); len(b) != 0 || e != api.OK {
		t.Error(b, e)
	}
	if b, e := s.Raw(1); len(b) != 0 || e != api.ErrShort {
		t.Error(b, e)
	}
	if b, e := s.Raw(-1); len(b) != 0 || e != api.ErrArg {
		t.Error(b, e)
	}
	if b := new(leb.Sink).All(); len(b) != 0 {
		t.Error(b)
	}
}

// Types: calls on none answer ErrNil, or nothing.
func TestNone(t *testing.T) {
	var k *leb.Sink
	if k.Number(1) != nil || k.Bytes([]byte("a")) != nil || k.Raw([]byte("a")) != nil || len(k.All()) != 0 {
		t.Error("a Sink out of none")
	}
	var s *leb.Source
	if n, e := s.Number(9); n != 0 || e != api.ErrNil {
		t.Error(n, e)
	}
	for _, most := range []int{-1, 0, 9} {
		if b, e := s.Bytes(most); len(b) != 0 || e != api.ErrNil {
			t.Error(b, e)
		}
		if b, e := s.Raw(most); len(b) != 0 || e != api.ErrNil {
			t.Error(b, e)
		}
	}
	if s.Left() != 0 || s.End() != api.ErrNil {
		t.Error(s.Left(), s.End())
	}
}

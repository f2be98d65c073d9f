package sum_test

import (
	"bytes"
	"encoding/binary"
	"encoding/hex"
	"hash/crc32"
	"math/rand"
	"os"
	"os/exec"
	"slices"
	"strings"
	"testing"

	"marshes/api"
	"marshes/sum"
)

// raw is the bytes of hex digits.
func raw(t *testing.T, text string) []byte {
	t.Helper()
	b, err := hex.DecodeString(strings.ReplaceAll(text, " ", ""))
	if err != nil {
		t.Fatal(err)
	}
	return b
}

// some is bytes of which no two pieces are alike, the same ones each time.
func some(size int) []byte {
	b := make([]byte, size)
	rand.New(rand.NewSource(int64(size) + 1)).Read(b)
	return b
}

// samples are bytes of many sizes.
func samples() [][]byte {
	l := [][]byte{nil, {}, {0}, {0xFF}, []byte("123456789"), make([]byte, 40), bytes.Repeat([]byte{0xFF}, 40)}
	for _, size := range []int{1, 2, 3, 4, 5, 7, 8, 9, 31, 64, 255, 256, 257, 1000} {
		l = append(l, some(size))
	}
	return l
}

// overBit is the chapter's register, gone on over a bit.
func overBit(register, bit uint32) uint32 {
	if register&1 != bit {
		return register>>1 ^ 0xEDB88320
	}
	return register >> 1
}

// plainSum is the chapter's sum, bit by bit.
func plainSum(b []byte) uint32 {
	register := ^uint32(0)
	for _, one := range b {
		for place := range 8 {
			register = overBit(register, uint32(one>>place)&1)
		}
	}
	return ^register
}

// plainWrap is the chapter's form, for any length, a wrong one too.
func plainWrap(size uint32, b []byte) []byte {
	w := binary.LittleEndian.AppendUint32(nil, size)
	w = append(w, b...)
	return binary.LittleEndian.AppendUint32(w, plainSum(w))
}

func wrap(t *testing.T, b []byte) []byte {
	t.Helper()
	w, e := sum.Wrap(b)
	if e != api.OK {
		t.Fatalf("%d bytes are not wrapped: error %d", len(b), e)
	}
	return w
}

// notWrapped tells if bytes pass as wrapped ones, or if a refusal answers anything beside its error.
func notWrapped(t *testing.T, what string, b []byte) {
	t.Helper()
	if in, e := sum.Unwrap(b); e != api.ErrSum || in != nil {
		t.Errorf("%s: Unwrap answers %d bytes, error %d", what, len(in), e)
	}
}

// notFirst is the same for what bytes begin with.
func notFirst(t *testing.T, what string, b []byte) {
	t.Helper()
	if one, rest, e := sum.First(b); e != api.ErrSum || one != nil || rest != nil {
		t.Errorf("%s: First answers %d and %d bytes, error %d", what, len(one), len(rest), e)
	}
}

// calls are the exported functions, each of which may be the first one that is called.
func calls() map[string]func(*testing.T) {
	nine := []byte("123456789")
	return map[string]func(*testing.T){
		"Of": func(t *testing.T) {
			if n := sum.Of(nine); n != 0xCBF43926 {
				t.Errorf("%08X", n)
			}
		},
		"On": func(t *testing.T) {
			if n := sum.On(0, nine); n != 0xCBF43926 {
				t.Errorf("%08X", n)
			}
		},
		"Wrap": func(t *testing.T) {
			if w, e := sum.Wrap(nine); e != api.OK || !bytes.Equal(w, plainWrap(9, nine)) {
				t.Errorf("%x, error %d", w, e)
			}
		},
		"Unwrap": func(t *testing.T) {
			if b, e := sum.Unwrap(plainWrap(9, nine)); e != api.OK || !bytes.Equal(b, nine) {
				t.Errorf("%x, error %d", b, e)
			}
		},
		"First": func(t *testing.T) {
			if b, _, e := sum.First(plainWrap(9, nine)); e != api.OK || !bytes.Equal(b, nine) {
				t.Errorf("%x, error %d", b, e)
			}
		},
		"Table": func(t *testing.T) {
			if n := sum.Table()[1]; n != 0x77073096 {
				t.Errorf("%08X", n)
			}
		},
	}
}

// P2.1, P2.2: a program's first call, whichever it is, answers as later ones do: each is tried in a process of its own.
func TestFirstCall(t *testing.T) {
	const asked = "SUM_FIRST_CALL"
	if name := os.Getenv(asked); name != "" {
		calls()[name](t)
		return
	}
	for name := range calls() {
		c := exec.Command(os.Args[0], "-test.run=^TestFirstCall$")
		c.Env = append(os.Environ(), asked+"="+name)
		if out, err := c.CombinedOutput(); err != nil {
			t.Errorf("%s: %v\n%s", name, err, out)
		}
	}
}

// P2.1: the chapter's examples, and other published sums.
func TestOfPublished(t *testing.T) {
	for text, want := range map[string]uint32{
		"": 0, "a": 0xE8B7BE43, "abc": 0x352441C2, "123456789": 0xCBF43926,
		"The quick brown fox jumps over the lazy dog": 0x414FA339,
		"\x00": 0xD202EF8D, "\x00\x00\x00\x00": 0x2144DF1C, "\xFF\xFF\xFF\xFF": 0xFFFFFFFF,
	} {
		if got := sum.Of([]byte(text)); got != want {
			t.Errorf("Of(%q): %08X, want %08X", text, got, want)
		}
	}
	if sum.Of() != 0 || sum.Of(nil) != 0 || sum.Of([]byte{}) != 0 || sum.Of(nil, nil, []byte{}) != 0 {
		t.Error("the sum of nothing is not 0")
	}
}

// P2.1: by the chapter's words, and as another program answers.
func TestOf(t *testing.T) {
	for _, b := range samples() {
		want := plainSum(b)
		if want != crc32.ChecksumIEEE(b) {
			t.Fatalf("%x: the test's own sum is wrong", b)
		}
		if got := sum.Of(b); got != want {
			t.Errorf("Of(%x): %08X, want %08X", b, got, want)
		}
	}
	for one := range 256 {
		b := []byte{byte(one)}
		if got := sum.Of(b); got != plainSum(b) {
			t.Errorf("Of(%x): %08X, want %08X", b, got, plainSum(b))
		}
	}
}

// P2.1: parts are summed as if they stood one behind the other, none among them, wherever they are cut.
func TestOfParts(t *testing.T) {
	for _, b := range samples() {
		want := plainSum(b)
		for at := range len(b) + 1 {
			if sum.Of(b[:at], b[at:]) != want || sum.Of(nil, b[:at], []byte{}, b[at:], nil) != want {
				t.Fatalf("%d bytes, cut at %d: another sum", len(b), at)
			}
			middle := at + (len(b)-at)/2
			if sum.Of(b[:at], b[at:middle], b[middle:]) != want {
				t.Fatalf("%d bytes, cut at %d and %d: another sum", len(b), at, middle)
			}
		}
		var single [][]byte
		for i := range b {
			single = append(single, b[i:i+1])
		}
		if sum.Of(single...) != want {
			t.Errorf("%d bytes, one by one: another sum", len(b))
		}
	}
	if sum.Of([]byte("a"), []byte("b")) == sum.Of([]byte("b"), []byte("a")) {
		t.Error("the order of the parts is the same to it")
	}
}

// P2.1: a sum goes on, from nothing, over nothing, and from any other one.
func TestOn(t *testing.T) {
	for _, b := range samples() {
		if got := sum.On(0, b); got != plainSum(b) {
			t.Errorf("On(0, %x): %08X, want %08X", b, got, plainSum(b))
		}
		for at := range len(b) + 1 {
			if got := sum.On(plainSum(b[:at]), b[at:]); got != plainSum(b) {
				t.Fatalf("%d bytes, on from %d: %08X, want %08X", len(b), at, got, plainSum(b))
			}
		}
	}
	for _, n := range []uint32{0, 1, 0xFF, 0x12345678, 0xCBF43926, 1 << 31, 0xFFFFFFFF} {
		if sum.On(n, nil) != n || sum.On(n, []byte{}) != n {
			t.Errorf("On(%08X, nothing): another sum", n)
		}
		if got, want := sum.On(n, some(9)), crc32.Update(n, crc32.IEEETable, some(9)); got != want {
			t.Errorf("On(%08X, ..): %08X, want %08X", n, got, want)
		}
	}
}

// P2.1: each entry of the table.
func TestTable(t *testing.T) {
	table := sum.Table()
	for first, got := range table {
		want := uint32(first)
		for range 8 {
			want = overBit(want, 0)
		}
		if got != want || got != crc32.IEEETable[first] {
			t.Errorf("the entry of %02X: %08X, want %08X", first, got, want)
		}
	}
}

// P2.2: the chapter's example, and bytes of any size, there and back.
func TestWrap(t *testing.T) {
	if w := wrap(t, nil); !bytes.Equal(w, raw(t, "00 00 00 00 1C DF 44 21")) {
		t.Errorf("nothing, wrapped: %x", w)
	}
	for _, b := range samples() {
		w := wrap(t, b)
		if want := plainWrap(uint32(len(b)), b); !bytes.Equal(w, want) {
			t.Errorf("%x, wrapped: %x, want %x", b, w, want)
		}
		if in, e := sum.Unwrap(w); e != api.OK || !bytes.Equal(in, b) {
			t.Errorf("%x, there and back: %x, error %d", b, in, e)
		}
		if one, rest, e := sum.First(w); e != api.OK || !bytes.Equal(one, b) || len(rest) != 0 {
			t.Errorf("%x, the first one: %x and %x, error %d", b, one, rest, e)
		}
	}
}

// P2.2: the length's lowest byte comes first, whichever of its bytes are used.
func TestWrapLength(t *testing.T) {
	for size, want := range map[int]string{
		1: "01 00 00 00", 255: "FF 00 00 00", 256: "00 01 00 00", 65535: "FF FF 00 00", 65536: "00 00 01 00", 66051: "03 02 01 00",
	} {
		b := some(size)
		w := wrap(t, b)
		if len(w) != size+8 || !bytes.Equal(w[:4], raw(t, want)) || !bytes.Equal(w[4:size+4], b) {
			t.Errorf("%d bytes: %d that begin with %x", size, len(w), w[:4])
		}
		if in, e := sum.Unwrap(w); e != api.OK || !bytes.Equal(in, b) {
			t.Errorf("%d bytes, there and back: %d, error %d", size, len(in), e)
		}
	}
}

// P2.2: MaxWrap bytes are wrapped; one more is not, and passes nowhere, though length and sum are right.
func TestMaxWrap(t *testing.T) {
	b := some(api.MaxWrap + 1)
	w := wrap(t, b[:api.MaxWrap])
	if !bytes.Equal(w, plainWrap(api.MaxWrap, b[:api.MaxWrap])) {
		t.Error("MaxWrap bytes are wrapped wrongly")
	}
	if in, e := sum.Unwrap(w); e != api.OK || !bytes.Equal(in, b[:api.MaxWrap]) {
		t.Errorf("MaxWrap bytes: %d, error %d", len(in), e)
	}
	if one, rest, e := sum.First(append(w, 5)); e != api.OK || !bytes.Equal(one, b[:api.MaxWrap]) || !bytes.Equal(rest, []byte{5}) {
		t.Errorf("MaxWrap bytes: the first %d, behind them %d, error %d", len(one), len(rest), e)
	}
	if w, e := sum.Wrap(b); e != api.ErrMost || w != nil {
		t.Errorf("one more: %d bytes, error %d", len(w), e)
	}
	over := plainWrap(api.MaxWrap+1, b)
	notWrapped(t, "one more", over)
	notFirst(t, "one more", over)
	notFirst(t, "one more, and bytes behind", append(over, w...))
}

// P2.2: fewer bytes than a length and a sum have.
func TestFewBytes(t *testing.T) {
	notWrapped(t, "none", nil)
	notFirst(t, "none", nil)
	nothing := plainWrap(0, nil)
	for size := range len(nothing) {
		notWrapped(t, "few", nothing[:size])
		notFirst(t, "few", nothing[:size])
		notWrapped(t, "noughts", make([]byte, size))
		notFirst(t, "noughts", make([]byte, size))
		ones := bytes.Repeat([]byte{0xFF}, size)
		notWrapped(t, "ones", ones)
		notFirst(t, "ones", ones)
	}
	// Cut ahead of the bytes' end, where more of them could be read.
	notWrapped(t, "few of more", wrap(t, some(9))[:7])
	notFirst(t, "few of more", wrap(t, some(9))[:7])
}

// P2.2: a length that says another number than there are, with a sum that is right.
func TestWrongLength(t *testing.T) {
	for _, b := range [][]byte{nil, some(1), some(4), some(5), some(20)} {
		n := len(b)
		for said := range n + 20 {
			w := plainWrap(uint32(said), b)
			if said != n {
				notWrapped(t, "another length", w)
			}
			if said > n {
				notFirst(t, "a greater length", w)
			}
		}
		for _, said := range []uint32{uint32(n) | 1<<8, uint32(n) | 1<<16, uint32(n) | 1<<24, uint32(n) | 1<<31, api.MaxWrap, api.MaxWrap + 1, 1<<31 - 1, 1 << 31, 1<<32 - 9, 1<<32 - 8, 1<<32 - 5, 1<<32 - 4, 1<<32 - 1} {
			notWrapped(t, "a great length", plainWrap(said, b))
			notFirst(t, "a great length", plainWrap(said, b))
		}
	}
}

// P2.2: a length that says fewer than there are is wrong for Unwrap, and right for First if a sum stands where it says.
func TestLessLength(t *testing.T) {
	b := append(wrap(t, []byte("ab")), "cdefgh"...)
	notWrapped(t, "fewer", b)
	if one, rest, e := sum.First(b); e != api.OK || string(one) != "ab" || string(rest) != "cdefgh" {
		t.Errorf("%q and %q, error %d", one, rest, e)
	}
	less := wrap(t, []byte("abcdef"))
	less[0] = 3
	notFirst(t, "fewer, no sum there", less)
}

// P2.2: a sum that is wrong, or of something else.
func TestWrongSum(t *testing.T) {
	for _, b := range samples() {
		good := plainWrap(uint32(len(b)), b)
		end := len(b) + 4
		for what, n := range map[string]uint32{
			"one more":            plainSum(good[:end]) + 1,
			"bits turned":         ^plainSum(good[:end]),
			"without the length":  plainSum(b),
			"of the length alone": plainSum(good[:4]),
			"the length":          uint32(len(b)),
		} {
			if n == plainSum(good[:end]) {
				continue
			}
			w := binary.LittleEndian.AppendUint32(slices.Clone(good[:end]), n)
			notWrapped(t, what, w)
			notFirst(t, what, w)
		}
		w := binary.BigEndian.AppendUint32(slices.Clone(good[:end]), plainSum(good[:end]))
		if !bytes.Equal(w, good) {
			notWrapped(t, "the highest byte first", w)
			notFirst(t, "the highest byte first", w)
		}
	}
	notWrapped(t, "noughts", make([]byte, 12))
	notFirst(t, "noughts", make([]byte, 12))
}

// turned is b with the mask's bits turned from a place on: byte by byte, of each the lowest first.
func turned(b []byte, at int, mask uint32) []byte {
	c := slices.Clone(b)
	for i := range 32 {
		if mask>>i&1 == 1 {
			c[(at+i)/8] ^= 1 << ((at + i) % 8)
		}
	}
	return c
}

// masks are bits within 32 that follow one another, the first one among them: all of few bits, and some of up to 32.
func masks() []uint32 {
	var l []uint32
	for m := uint32(1); m < 1<<7; m += 2 {
		l = append(l, m)
	}
	for wide := 7; wide < 32; wide++ {
		top := uint32(1) << wide
		l = append(l, top|1, top|(top-1))
	}
	random := rand.New(rand.NewSource(1))
	for range 60 {
		l = append(l, random.Uint32()|1)
	}
	return append(l, 0xEDB88320|1, 0xDB710641, 0xFFFFFFFF)
}

// P2.4: wrapped bytes in which bits were turned, within 32 that follow one another.
func TestTurned(t *testing.T) {
	for _, b := range [][]byte{nil, {0}, []byte("abc"), make([]byte, 20), some(33)} {
		w := wrap(t, b)
		for at := range len(w) * 8 {
			for _, mask := range masks() {
				if at+31-leadingNoughts(mask) >= len(w)*8 {
					continue
				}
				if in, e := sum.Unwrap(turned(w, at, mask)); e != api.ErrSum || in != nil {
					t.Fatalf("%d bytes, %08X turned at bit %d: error %d", len(b), mask, at, e)
				}
			}
		}
	}
}

func leadingNoughts(mask uint32) int {
	n := 0
	for n < 32 && mask>>(31-n)&1 == 0 {
		n++
	}
	return n
}

// P2.4: behind a turn of bits in what follows the length, First finds them no more either; turned back it does.
func TestTurnedFirst(t *testing.T) {
	w := wrap(t, some(21))
	behind := some(50)
	for at := 32; at < (len(w)-4)*8; at++ {
		for _, mask := range masks() {
			b := append(turned(w, at, mask), behind...)
			notFirst(t, "turned", b)
			if one, rest, e := sum.First(turned(b, at, mask)); e != api.OK || !bytes.Equal(one, some(21)) || !bytes.Equal(rest, behind) {
				t.Fatalf("turned back: %x and %x, error %d", one, rest, e)
			}
		}
	}
}

// P2.4: wrapped bytes that are cut, at either end, or with more behind.
func TestCut(t *testing.T) {
	for _, b := range samples() {
		w := wrap(t, b)
		for size := range w {
			notWrapped(t, "cut", w[:size])
			notFirst(t, "cut", w[:size])
			if size > 0 && size < 64 {
				notWrapped(t, "cut at the front", w[size:])
			}
		}
		for _, more := range [][]byte{{0}, {0xFF}, make([]byte, 8), w, some(9)} {
			notWrapped(t, "more behind", slices.Concat(w, more))
		}
	}
}

// P2.4: one behind the other they are found one by one, and what stands behind them is left.
func TestOneByOne(t *testing.T) {
	for _, tail := range [][]byte{nil, {0}, []byte("tail"), make([]byte, 8), some(30)} {
		var all []byte
		for _, b := range samples() {
			all = append(all, wrap(t, b)...)
		}
		left := append(all, tail...)
		for i, b := range samples() {
			one, rest, e := sum.First(left)
			if e != api.OK || !bytes.Equal(one, b) || len(rest) != len(left)-len(b)-8 || !bytes.Equal(rest, left[len(b)+8:]) {
				t.Fatalf("the one at %d: %x, %d left, error %d", i, one, len(rest), e)
			}
			left = rest
		}
		if !bytes.Equal(left, tail) {
			t.Errorf("behind all: %x, want %x", left, tail)
		}
		notFirst(t, "behind all", left)
	}
}

// P2.3: what is handed in stays as it was, what lies behind it in memory too.
func TestOnlyRead(t *testing.T) {
	w := wrap(t, some(20))
	memory := slices.Concat(some(3), w, some(40))
	kept := slices.Clone(memory)
	b := memory[3 : 3+len(w)]
	parts := [][]byte{b, nil, b[:4]}
	sum.Of(parts...)
	sum.On(7, b)
	sum.Wrap(b)
	sum.Unwrap(b)
	sum.Unwrap(b[:9])
	sum.First(b)
	sum.First(memory[3:])
	sum.First(b[1:])
	if !bytes.Equal(memory, kept) {
		t.Error("what was handed in is changed")
	}
	if len(parts) != 3 || &parts[0][0] != &b[0] || len(parts[0]) != len(b) || parts[1] != nil || len(parts[2]) != 4 {
		t.Error("the list of parts is changed")
	}
}

// spoil changes all of b's memory, what it has room for too.
func spoil(b []byte) {
	b = b[:cap(b)]
	for i := range b {
		b[i] ^= 0xFF
	}
}

// P2.3: what is answered shares no memory with what was handed in, nor one result with the other.
func TestNewMemory(t *testing.T) {
	for _, b := range [][]byte{{}, some(1), some(20), some(300)} {
		want, given := slices.Clone(b), slices.Clone(b)
		w, _ := sum.Wrap(given)
		spoil(given)
		if in, e := sum.Unwrap(w); e != api.OK || !bytes.Equal(in, want) {
			t.Errorf("Wrap of %d bytes shares them", len(want))
		}

		given = slices.Clone(w)
		in, _ := sum.Unwrap(given)
		spoil(given)
		if !bytes.Equal(in, want) {
			t.Errorf("Unwrap of %d bytes shares them", len(want))
		}

		given = append(slices.Clone(w), "behind"...)
		one, rest, _ := sum.First(given)
		spoil(given)
		if !bytes.Equal(one, want) || string(rest) != "behind" {
			t.Errorf("First of %d bytes shares them", len(want))
		}
		spoil(one)
		if string(rest) != "behind" {
			t.Errorf("the results of First share memory: %q", rest)
		}
	}
}

// P2.3: what is done to an answer changes nothing that was handed in, and no answer that comes later.
func TestAnswersChanged(t *testing.T) {
	w := wrap(t, some(20))
	memory := slices.Concat(w, some(30))
	kept := slices.Clone(memory)
	in, _ := sum.Unwrap(memory[:len(w)])
	one, rest, _ := sum.First(memory)
	again, _ := sum.Wrap(memory)
	for _, b := range [][]byte{in, one, rest, again} {
		spoil(b)
	}
	empty, none, _ := sum.First(memory[:len(w)])
	spoil(empty)
	spoil(none)
	if !bytes.Equal(memory, kept) {
		t.Error("what was handed in is changed by way of an answer")
	}
	table := sum.Table()
	for i := range table {
		table[i] = 0
	}
	if sum.Table() != [256]uint32(*crc32.IEEETable) || sum.Of([]byte("123456789")) != 0xCBF43926 {
		t.Error("the table is changed by way of an answer")
	}
}

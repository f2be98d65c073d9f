package hash_test

import (
	"bytes"
	"crypto/sha256"
	"encoding/hex"
	"math/rand"
	"os"
	"os/exec"
	"slices"
	"strings"
	"testing"

	"marshes/api"
	"marshes/hash"
)

// some is bytes of which no two pieces are alike, the same ones each time.
func some(size int) []byte {
	b := make([]byte, size)
	rand.New(rand.NewSource(int64(size) + 1)).Read(b)
	return b
}

// idOf is the id of 64 hex digits, in groups or not, as another program reads them.
func idOf(t *testing.T, text string) api.ID {
	t.Helper()
	b, err := hex.DecodeString(strings.ReplaceAll(text, " ", ""))
	if err != nil || len(b) != api.IDSize {
		t.Fatalf("%q: %d bytes, %v", text, len(b), err)
	}
	return api.ID(b)
}

// with is an id of noughts but for some bytes, from a place on.
func with(place int, b ...byte) api.ID {
	var id api.ID
	copy(id[place:], b)
	return id
}

const (
	ofNothing = "e3b0c442 98fc1c14 9afbf4c8 996fb924 27ae41e4 649b934c a495991b 7852b855"
	ofAbc     = "ba7816bf 8f01cfea 414140de 5dae2223 b00361a3 96177a9c b410ff61 f20015ad"
	abcText   = "ba7816bf8f01cfea414140de5dae2223b00361a396177a9cb410ff61f20015ad"
)

// calls are the functions that need the constants, each of which may be the first one that is called, and others beside them.
func calls(t *testing.T) map[string]func() bool {
	abc, nothing := idOf(t, ofAbc), idOf(t, ofNothing)
	return map[string]func() bool{
		"Of":         func() bool { return hash.Of([]byte("abc")) == abc },
		"Of nothing": func() bool { return hash.Of() == nothing },
		"Add":        func() bool { return new(hash.Running).Add(some(64)).Sum() == sha256.Sum256(some(64)) },
		"Sum":        func() bool { return new(hash.Running).Sum() == nothing },
		"Sum of none": func() bool {
			var none *hash.Running
			return none.Sum() == nothing
		},
		"Len":  func() bool { return new(hash.Running).Len() == 0 },
		"Text": func() bool { return hash.Text(abc) == abcText },
	}
}

// P3.1: a program's first call, whichever it is, answers as later ones do: each is tried in a process of its own.
func TestFirstCall(t *testing.T) {
	const asked = "HASH_FIRST_CALL"
	if name := os.Getenv(asked); name != "" {
		if !calls(t)[name]() {
			t.Error("another answer")
		}
		return
	}
	for name, right := range calls(t) {
		c := exec.Command(os.Args[0], "-test.run=^TestFirstCall$")
		c.Env = append(os.Environ(), asked+"="+name)
		if out, err := c.CombinedOutput(); err != nil {
			t.Errorf("%s: %v\n%s", name, err, out)
		}
		if !right() {
			t.Errorf("%s, later on: another answer", name)
		}
	}
}

// P3.1: the chapter's examples, and other published hashes.
func TestOfPublished(t *testing.T) {
	for text, want := range map[string]string{
		"":    ofNothing,
		"abc": ofAbc,
		"abcdbcdecdefdefgefghfghighijhijkijkljklmklmnlmnomnopnopq":                                                         "248d6a61 d20638b8 e5c02693 0c3e6039 a33ce459 64ff2167 f6ecedd4 19db06c1",
		"abcdefghbcdefghicdefghijdefghijkefghijklfghijklmghijklmnhijklmnoijklmnopjklmnopqklmnopqrlmnopqrsmnopqrstnopqrstu": "cf5b16a7 78af8380 036ce59e 7b049237 0b249b11 e8f07a51 afac4503 7afee9d1",
		"The quick brown fox jumps over the lazy dog":                                                                      "d7a8fbb3 07d78094 69ca9abc b0082e4f 8d5651e4 6d3cdb76 2d02d0bf 37c9e592",
		"\xbd": "68325720 aabd7c82 f30f554b 313d0570 c95accbb 7dc4b5aa e11204c0 8ffe732b",
	} {
		if got := hash.Of([]byte(text)); got != idOf(t, want) {
			t.Errorf("Of(%q): %x", text, got)
		}
	}
	nothing := idOf(t, ofNothing)
	for i, got := range []api.ID{hash.Of(), hash.Of(nil), hash.Of([]byte{}), hash.Of(nil, []byte{}, nil)} {
		if got != nothing {
			t.Errorf("nothing, in form %d: %x", i, got)
		}
	}
}

// P3.1: a million times the letter a, as published, in parts that do not fit into blocks.
func TestMillion(t *testing.T) {
	want := idOf(t, "cdc76e5c 9914fb92 81a1c7e2 84d73e67 f1809a48 a497200e 046d39cc c7112cd0")
	all := bytes.Repeat([]byte{'a'}, 1000000)
	if got := hash.Of(all); got != want {
		t.Errorf("at once: %x", got)
	}
	var r hash.Running
	for left := all; len(left) > 0; left = left[min(997, len(left)):] {
		r.Add(left[:min(997, len(left))])
	}
	if got := r.Sum(); got != want || r.Len() != 1000000 {
		t.Errorf("in parts: %x of %d bytes", got, r.Len())
	}
}

// P3.1: bytes of any length up to some blocks, of any kind, as another program answers.
func TestOf(t *testing.T) {
	for size := range 400 {
		for _, b := range [][]byte{some(size), make([]byte, size), bytes.Repeat([]byte{0xFF}, size), bytes.Repeat([]byte{0x80}, size)} {
			if got := hash.Of(b); got != sha256.Sum256(b) {
				t.Errorf("%d bytes, %x ..: %x", size, b[:min(4, size)], got)
			}
		}
	}
	for _, size := range []int{4000, 4095, 4096, 4097, 65536, 1<<20 + 1} {
		if got := hash.Of(some(size)); got != sha256.Sum256(some(size)) {
			t.Errorf("%d bytes: %x", size, got)
		}
	}
	for one := range 256 {
		if b := []byte{byte(one)}; hash.Of(b) != sha256.Sum256(b) {
			t.Errorf("the byte %02X: %x", one, hash.Of(b))
		}
	}
}

// aboutBlocks are lengths about the ends of blocks, and of what there is room for ahead of a length.
func aboutBlocks() []int {
	return []int{0, 1, 2, 54, 55, 56, 57, 62, 63, 64, 65, 66, 118, 119, 120, 121, 126, 127, 128, 129, 191, 192, 193, 300}
}

// P3.1, P3.5: parts are hashed as if they stood one behind the other, wherever they are cut, none among them.
func TestOfParts(t *testing.T) {
	for _, size := range aboutBlocks() {
		b := some(size)
		want := api.ID(sha256.Sum256(b))
		for at := range size + 1 {
			if hash.Of(b[:at], b[at:]) != want || hash.Of(nil, b[:at], []byte{}, nil, b[at:], nil) != want {
				t.Fatalf("%d bytes, cut at %d: another hash", size, at)
			}
			middle := at + (size-at)/2
			if hash.Of(b[:at], b[at:middle], b[middle:]) != want {
				t.Fatalf("%d bytes, cut at %d and %d: another hash", size, at, middle)
			}
		}
		if hash.Of(slices.Collect(slices.Chunk(b, 1))...) != want {
			t.Errorf("%d bytes, one by one: another hash", size)
		}
	}
	if hash.Of([]byte("a"), []byte("b")) == hash.Of([]byte("b"), []byte("a")) {
		t.Error("the order of the parts is the same to it")
	}
}

// P3.1, P3.5: a running hash, in parts of any size, with sums and lengths taken between: they change nothing, and are those of what was added so far.
func TestRunning(t *testing.T) {
	b := some(700)
	for _, step := range []int{1, 2, 7, 31, 32, 55, 56, 63, 64, 65, 100, 127, 128, 129, 200, 699, 700} {
		var asked, silent hash.Running
		for at := 0; at < len(b); at += step {
			end := min(at+step, len(b))
			if r := asked.Add(b[at:end]); r != &asked {
				t.Fatal("Add answers another running hash")
			}
			silent.Add(b[at:end])
			want := api.ID(sha256.Sum256(b[:end]))
			if asked.Sum() != want || asked.Sum() != want || asked.Len() != end {
				t.Fatalf("%d bytes, in parts of %d: another sum, or %d bytes", end, step, asked.Len())
			}
			if asked.Add(nil).Add([]byte{}).Sum() != want || asked.Len() != end {
				t.Fatalf("%d bytes, in parts of %d, and nothing behind: another sum", end, step)
			}
		}
		if want := api.ID(sha256.Sum256(b)); silent.Sum() != want || silent.Len() != len(b) {
			t.Errorf("in parts of %d: another sum", step)
		}
	}
}

// P3.5: however bytes are parted, at chance's places, they have one hash.
func TestAnyParts(t *testing.T) {
	random := rand.New(rand.NewSource(3))
	for range 300 {
		b := some(random.Intn(500))
		want := api.ID(sha256.Sum256(b))
		var parts [][]byte
		var r hash.Running
		for left := b; ; {
			n := random.Intn(min(len(left), 150) + 1)
			parts = append(parts, left[:n])
			r.Add(left[:n])
			left = left[n:]
			if len(left) == 0 {
				break
			}
		}
		if hash.Of(b) != want || hash.Of(parts...) != want || r.Sum() != want || r.Len() != len(b) {
			t.Fatalf("%d bytes in %d parts: another hash", len(b), len(parts))
		}
	}
}

// P3.1: two running hashes have nothing to do with each other.
func TestTwoRunning(t *testing.T) {
	var a, b hash.Running
	for i := range 200 {
		a.Add(some(i))
		b.Add(make([]byte, i))
		a.Sum()
	}
	var all, noughts []byte
	for i := range 200 {
		all, noughts = append(all, some(i)...), append(noughts, make([]byte, i)...)
	}
	if a.Sum() != sha256.Sum256(all) || b.Sum() != sha256.Sum256(noughts) {
		t.Error("another sum")
	}
}

// P3.1: one that nobody made has no bytes; calls on none answer nothing, or the id of no bytes.
func TestNoRunning(t *testing.T) {
	nothing := idOf(t, ofNothing)
	var zero hash.Running
	if zero.Len() != 0 || zero.Sum() != nothing || zero.Len() != 0 {
		t.Errorf("nobody's: %d bytes, %x", zero.Len(), zero.Sum())
	}
	if zero.Add(nil).Sum() != nothing || zero.Add([]byte{}).Len() != 0 {
		t.Error("nobody's, and nothing added: not that of no bytes")
	}
	if zero.Add([]byte("abc")).Sum() != idOf(t, ofAbc) || zero.Len() != 3 {
		t.Error("nobody's, asked ahead of abc: another sum")
	}
	var none *hash.Running
	if none.Add([]byte("abc")) != nil || none.Add(nil) != nil || none.Add(some(100)).Add(some(1)) != nil {
		t.Error("Add on none answers something")
	}
	if none.Sum() != nothing || none.Len() != 0 || none.Add(some(3)).Sum() != nothing || none.Add(some(3)).Len() != 0 {
		t.Errorf("none: %d bytes, %x", none.Len(), none.Sum())
	}
}

// ids are such that differ at any byte, by much and by little, in no order.
func ids() []api.ID {
	l := []api.ID{{}, api.ID(bytes.Repeat([]byte{0xFF}, api.IDSize)), hash.Of(), hash.Of([]byte("abc"))}
	for place := range api.IDSize {
		l = append(l, with(place, 1), with(place, 0x7F), with(place, 0x80), with(place, 0xFF))
	}
	for i := range 40 {
		l = append(l, sha256.Sum256([]byte{byte(i)}))
	}
	rand.New(rand.NewSource(5)).Shuffle(len(l), func(i, j int) { l[i], l[j] = l[j], l[i] })
	return l
}

// P3.2, P3.5: an id's text, and the id of it.
func TestText(t *testing.T) {
	if got := hash.Text(hash.Of([]byte("abc"))); got != abcText {
		t.Errorf("that of abc: %q", got)
	}
	if got := hash.Text(api.ID{}); got != strings.Repeat("0", api.TextSize) {
		t.Errorf("that of noughts: %q", got)
	}
	for _, id := range ids() {
		text := hash.Text(id)
		if text != hex.EncodeToString(id[:]) {
			t.Errorf("the text of %x: %q", id, text)
		}
		if back, e := hash.Parse(text); e != api.OK || back != id {
			t.Errorf("%q, back: %x, error %d", text, back, e)
		}
	}
	for place := range api.IDSize {
		for one := range 256 {
			id := with(place, byte(one))
			if back, e := hash.Parse(hash.Text(id)); e != api.OK || back != id {
				t.Fatalf("%x, there and back: %x, error %d", id, back, e)
			}
		}
	}
}

func noID(t *testing.T, text string) {
	t.Helper()
	if id, e := hash.Parse(text); e != api.ErrHash || id != (api.ID{}) {
		t.Errorf("%q: %x, error %d", text, id, e)
	}
}

// P3.2: texts that are no id's: too short, too long, with a capital digit, with any other byte, wherever it stands.
func TestParseWrong(t *testing.T) {
	for size := range api.TextSize {
		noID(t, abcText[:size])
	}
	for _, more := range []string{"0", "a", " ", "\n", "\x00", "00", abcText, ofAbc} {
		noID(t, abcText+more)
		noID(t, more+abcText)
	}
	noID(t, abcText[1:]+"\n")
	noID(t, ofAbc)
	noID(t, strings.ToUpper(abcText))
	noID(t, "0x"+abcText[2:])
	noID(t, strings.Repeat("é", api.TextSize/2))
	noID(t, strings.Repeat("٣", api.TextSize))
	for place := range api.TextSize {
		for one := range 256 {
			b := []byte(abcText)
			b[place] = byte(one)
			if one >= '0' && one <= '9' || one >= 'a' && one <= 'f' {
				if id, e := hash.Parse(string(b)); e != api.OK || hash.Text(id) != string(b) {
					t.Fatalf("%q: %x, error %d", b, id, e)
				}
				continue
			}
			noID(t, string(b))
		}
	}
}

// P3.2: ids stand in order by their bytes, the first one first, none of them below nought.
func TestCompare(t *testing.T) {
	rising := []api.ID{{}, with(31, 1), with(31, 2), with(31, 0x80), with(31, 0xFF), with(30, 1), with(30, 1, 1), with(1, 0xFF), with(0, 1), with(0, 1, 0, 1), with(0, 1, 1), with(0, 0x7F, 0xFF), with(0, 0x80), with(0, 0xFF), api.ID(bytes.Repeat([]byte{0xFF}, api.IDSize))}
	for i, a := range rising {
		for j, b := range rising {
			want := 0
			if i < j {
				want = -1
			} else if i > j {
				want = 1
			}
			if got := hash.Compare(a, b); got != want {
				t.Errorf("%x and %x: %d, want %d", a, b, got, want)
			}
		}
	}
	for _, a := range ids() {
		for _, b := range ids() {
			if got := hash.Compare(a, b); got != strings.Compare(hash.Text(a), hash.Text(b)) || got != -hash.Compare(b, a) {
				t.Fatalf("%x and %x: %d", a, b, got)
			}
		}
	}
}

// plainSet is the chapter's set: which rises, each once.
func plainSet(l []api.ID) []api.ID {
	met := map[string]api.ID{}
	for _, id := range l {
		met[string(id[:])] = id
	}
	var texts []string
	for text := range met {
		texts = append(texts, text)
	}
	slices.Sort(texts)
	var set []api.ID
	for _, text := range texts {
		set = append(set, met[text])
	}
	return set
}

// P3.3: the set of any ids, in any order, some of them twice.
func TestSet(t *testing.T) {
	if len(hash.Set()) != 0 || len(hash.Set([]api.ID{}...)) != 0 {
		t.Error("the set of none has some")
	}
	a, b, c := with(0, 1), with(0, 2), with(31, 3)
	for _, l := range [][]api.ID{{a}, {a, a}, {a, a, a}, {a, b, c}, {c, b, a}, {b, a, c, a, b}, {c, c, a, a, b, b}, {{}, a, {}}} {
		if got := hash.Set(l...); !slices.Equal(got, plainSet(l)) {
			t.Errorf("the set of %x: %x", l, got)
		}
	}
	random := rand.New(rand.NewSource(7))
	all := ids()
	for range 300 {
		var l []api.ID
		for range random.Intn(120) {
			l = append(l, all[random.Intn(len(all))])
		}
		set := hash.Set(l...)
		if !slices.Equal(set, plainSet(l)) || !slices.Equal(hash.Set(set...), set) {
			t.Fatalf("%d ids: a set of %d", len(l), len(set))
		}
	}
}

// P3.3: whether a set has an id, of sets of any size: each that is in it, and such as stand ahead, between and behind.
func TestHas(t *testing.T) {
	all := hash.Set(ids()...)
	if hash.Has(nil, api.ID{}) || hash.Has([]api.ID{}, all[0]) {
		t.Error("none has one")
	}
	for size := range 40 {
		var in, out []api.ID
		for i, id := range all {
			if i%2 == 1 && len(in) < size {
				in = append(in, id)
			} else {
				out = append(out, id)
			}
		}
		for _, id := range in {
			if !hash.Has(in, id) {
				t.Fatalf("a set of %d has not its %x", len(in), id)
			}
		}
		for _, id := range out {
			if hash.Has(in, id) {
				t.Fatalf("a set of %d has %x", len(in), id)
			}
		}
	}
	for _, id := range all {
		if !hash.Has(all, id) {
			t.Errorf("the set of all has not %x", id)
		}
	}
}

// P3.3: a set less another one, less itself, less nothing, less a part of it, and less such as it has not.
func TestLess(t *testing.T) {
	a, b, c, d := with(31, 1), with(31, 2), with(0, 1), with(0, 2)
	for _, x := range []struct{ one, other, want []api.ID }{
		{nil, nil, nil}, {nil, []api.ID{a, b}, nil}, {[]api.ID{a, b}, nil, []api.ID{a, b}}, {[]api.ID{a, b}, []api.ID{}, []api.ID{a, b}},
		{[]api.ID{a, b, c}, []api.ID{a, b, c}, nil}, {[]api.ID{a, b, c}, []api.ID{b}, []api.ID{a, c}}, {[]api.ID{a, b, c}, []api.ID{a}, []api.ID{b, c}},
		{[]api.ID{a, b, c}, []api.ID{c}, []api.ID{a, b}}, {[]api.ID{b}, []api.ID{a, b, c}, nil}, {[]api.ID{a, c}, []api.ID{b, d}, []api.ID{a, c}},
		{[]api.ID{b, d}, []api.ID{a, c}, []api.ID{b, d}}, {[]api.ID{a, d}, []api.ID{b, c, d}, []api.ID{a}},
	} {
		if got := hash.Less(x.one, x.other); !slices.Equal(got, x.want) {
			t.Errorf("%x less %x: %x", x.one, x.other, got)
		}
	}
	random := rand.New(rand.NewSource(9))
	all := ids()
	for range 300 {
		one := hash.Set(all[:random.Intn(len(all))]...)
		random.Shuffle(len(all), func(i, j int) { all[i], all[j] = all[j], all[i] })
		other := hash.Set(all[:random.Intn(len(all))]...)
		var want []api.ID
		for _, id := range one {
			if !slices.Contains(other, id) {
				want = append(want, id)
			}
		}
		if got := hash.Less(one, other); !slices.Equal(got, want) {
			t.Fatalf("%d less %d: %d, want %d", len(one), len(other), len(got), len(want))
		}
		if len(hash.Less(one, one)) != 0 || !slices.Equal(hash.Less(one, nil), one) || len(hash.Less(nil, one)) != 0 {
			t.Fatalf("%d less themselves, less nothing, or nothing less them: wrong", len(one))
		}
	}
}

// P3.3: of lists that are no sets Has and Less may answer anything, but they end.
func TestNoSets(t *testing.T) {
	same := slices.Repeat([]api.ID{with(3, 3)}, 50)
	falling := hash.Set(ids()...)
	slices.Reverse(falling)
	for _, a := range [][]api.ID{ids(), same, falling} {
		for _, b := range [][]api.ID{ids(), same, falling, nil} {
			hash.Less(a, b)
			hash.Less(b, a)
		}
		for _, id := range ids() {
			hash.Has(a, id)
		}
	}
}

// P3.4: what is handed in stays as it was, what lies behind it in memory too.
func TestOnlyRead(t *testing.T) {
	memory := some(500)
	parts := [][]byte{memory[3:200], nil, memory[100:164]}
	hash.Of(parts...)
	var r hash.Running
	for size := range 200 {
		r.Add(memory[size : 2*size])
		r.Sum()
	}
	if !bytes.Equal(memory, some(500)) {
		t.Error("the bytes are changed")
	}
	if len(parts[0]) != 197 || parts[1] != nil || &parts[2][0] != &memory[100] {
		t.Error("the list of parts is changed")
	}
	list := append(append(ids(), ids()...), hash.Set(ids()...)...)
	kept := slices.Clone(list)
	n := len(ids())
	hash.Set(list[:2*n]...)
	hash.Set(list[:n]...)
	hash.Has(list[2*n:], list[0])
	hash.Less(list[2*n:], list[2*n+3:2*n+9])
	hash.Less(list[2*n:len(list)-4], nil)
	if !slices.Equal(list, kept) {
		t.Error("a list of ids is changed")
	}
}

// spoil changes all of a list's memory, what it has room for too.
func spoil(l []api.ID) {
	l = l[:cap(l)]
	for i := range l {
		l[i][0] ^= 0xFF
		l[i][31] ^= 0xFF
	}
}

// P3.4: lists that are answered share no memory with those that were handed in.
func TestNewMemory(t *testing.T) {
	set := hash.Set(ids()...)
	for _, size := range []int{0, 1, 2, 3, len(set)} {
		given, other := slices.Clone(set[:size]), slices.Clone(set[size:])
		for _, answer := range []func() []api.ID{
			func() []api.ID { return hash.Set(given...) },
			func() []api.ID { return hash.Less(given, nil) },
			func() []api.ID { return hash.Less(given, other) },
			func() []api.ID { return hash.Less(given, given) },
			func() []api.ID { return hash.Less(nil, given) },
		} {
			spoil(answer())
			if !slices.Equal(given, set[:size]) || !slices.Equal(other, set[size:]) {
				t.Fatalf("of %d: what was handed in is changed by way of an answer", size)
			}
			got := answer()
			kept := slices.Clone(got)
			spoil(given)
			spoil(other)
			if !slices.Equal(got, kept) {
				t.Fatalf("of %d: an answer is changed by way of what was handed in", size)
			}
			given, other = slices.Clone(set[:size]), slices.Clone(set[size:])
		}
	}
}

// P3.4: a running hash keeps no bytes that were handed in: what becomes of them later on is nothing to it.
func TestBytesNotKept(t *testing.T) {
	for _, size := range aboutBlocks() {
		b := some(size)
		var r hash.Running
		r.Add(b)
		clear(b)
		if r.Sum() != sha256.Sum256(some(size)) {
			t.Errorf("%d bytes are kept", size)
		}
	}
}

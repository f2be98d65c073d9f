package object_test

import (
	"bytes"
	"crypto/sha256"
	"encoding/binary"
	"math"
	"math/rand"
	"slices"
	"strings"
	"testing"

	"marshes/api"
	"marshes/object"
)

const (
	blobKind = iota + 1
	treeKind
	commitKind
	tagKind
)

// id is one like no other one of another n.
func id(n int) api.ID {
	return sha256.Sum256([]byte{byte(n), byte(n >> 8)})
}

// ids are some that are unlike.
func ids(count int) []api.ID {
	var l []api.ID
	for n := range count {
		l = append(l, id(n))
	}
	return l
}

func blob(data string) api.Object { return api.Object{Kind: blobKind, Data: []byte(data)} }

func tree(entries ...api.Entry) api.Object { return api.Object{Kind: treeKind, Entries: entries} }

func commit(tree api.ID, message string, parents ...api.ID) api.Object {
	return api.Object{Kind: commitKind, Tree: tree, Parents: parents, Message: message}
}

func tag(kind int, target api.ID, message string) api.Object {
	return api.Object{Kind: tagKind, Target: api.Link{Kind: kind, ID: target}, Message: message}
}

func entry(name string, kind int) api.Entry {
	return api.Entry{Name: name, Kind: kind, ID: id(len(name) + kind)}
}

// named is a tree with entries of these names.
func named(names ...string) api.Object {
	var l []api.Entry
	for n, name := range names {
		l = append(l, api.Entry{Name: name, Kind: blobKind + n%2, ID: id(n)})
	}
	return tree(l...)
}

// many are names that rise, of some bytes each.
func many(count, size int) []string {
	var l []string
	for n := range count {
		l = append(l, strings.Repeat("n", size-1)+string(rune('0'+n)))
	}
	return l
}

// long is a text of some bytes.
func long(size int) string { return strings.Repeat("m", size) }

// all256 has each byte.
func all256() string {
	var b []byte
	for n := range 256 {
		b = append(b, byte(n))
	}
	return string(b)
}

// sortedBytes are names of one byte each: all that may be in a name.
func sortedBytes(from, to int) []string {
	var l []string
	for n := from; n < to; n++ {
		if n != 0 && n != '/' {
			l = append(l, string([]byte{byte(n)}))
		}
	}
	return l
}

// good are objects that may be.
func good() []api.Object {
	l := []api.Object{
		blob(""), {Kind: blobKind}, blob("a"), blob("ab"), blob("\x00"), blob("\x00\xff/"), blob(all256()), blob(long(127)), blob(long(128)), blob(long(1023)), blob(long(1024)),
		tree(), {Kind: treeKind, Entries: []api.Entry{}}, named("a"), named("b", "c"), named("a", "b"), named("a", "aa"), named("a", "ab", "b"), named("A", "a"), named("a", "a\x01"), named("\x01", "\xff"), named("a.b", "a0"), named(".", ".."), named("~", "\x7f", "\x80"),
		named(long(1)), named(long(63)), named(long(64)), named(long(63), long(64)), named("a\nb", "a b", "a\\b"), named("\xff\xfe", "\xff\xff"), named("\xc3\xa4"), named("\xef\xbf\xbd"),
		named(many(31, 1)...), named(many(32, 1)...), named(many(32, 64)...), named(many(2, 64)...),
		tree(entry("a", blobKind)), tree(entry("a", treeKind)), tree(entry("a", blobKind), entry("b", treeKind)), tree(entry("a", treeKind), entry("b", blobKind)), tree(api.Entry{Name: "z", Kind: blobKind}), tree(api.Entry{Name: "a", Kind: blobKind, ID: id(1)}, api.Entry{Name: "b", Kind: blobKind, ID: id(1)}),
		commit(id(9), ""), commit(api.ID{}, ""), commit(id(9), "m"), commit(id(9), all256()[:200]), commit(id(9), all256()[56:]), commit(id(9), long(127)), commit(id(9), long(128)), commit(id(9), long(199)), commit(id(9), long(200)),
		commit(id(9), "m", api.ID{}), commit(id(9), "m", id(9)), commit(id(9), "m", id(2), id(1)), commit(id(9), "m", id(1), id(2)), commit(id(9), "", ids(3)...), commit(id(9), "", ids(4)...), commit(id(9), long(200), ids(4)...), {Kind: commitKind, Parents: []api.ID{}},
		tag(blobKind, id(3), ""), tag(treeKind, id(3), "m"), tag(commitKind, id(3), all256()[:200]), tag(tagKind, id(3), long(200)), tag(commitKind, api.ID{}, ""), tag(blobKind, id(3), long(199)), tag(blobKind, id(3), long(128)), tag(tagKind, id(3), "\x00\xff"),
	}
	for n := 0; n < 256; n += 31 {
		l = append(l, named(sortedBytes(n, min(n+31, 256))...))
	}
	return l
}

// bad are objects that may not be.
func bad() []api.Object {
	l := []api.Object{
		{}, {Kind: 5}, {Kind: -1}, {Kind: 6}, {Kind: 255}, {Kind: 256}, {Kind: 257}, {Kind: 1 << 32}, {Kind: 1<<32 + 1}, {Kind: math.MaxInt}, {Kind: math.MinInt}, {Kind: -5},
		blob(long(1025)), blob(long(1026)), blob(long(4000)), blob(long(1 << 16)),
		named(many(33, 1)...), named(many(33, 64)...), named(many(64, 2)...),
		named("a", "a"), named("b", "a"), named("ab", "a"), named("a", "b", "b"), named("a", "a", "b"), named("b", "c", "a"), named("a", "c", "b"), named("a", "A"), named("\xff", "\x01"), named("\x80", "\x7f"), named("a", "b", "a"), named(long(64), long(63)),
		named(""), named("", "a"), named("a", ""), named(long(65)), named("a", long(65)), named(long(66)), named(long(128)), named("a", "n"+long(64)),
		named("/"), named("a/"), named("/a"), named("a/b"), named("\x00"), named("a\x00"), named("\x00a"), named("a\x00b"), named("a", "b/"), named("a", "b\x00"), named(long(63) + "/"), named(long(63) + "\x00"), named("\xff/"), named("\xff\x00"),
		commit(id(9), "", ids(5)...), commit(id(9), "", ids(6)...), commit(id(9), "", ids(100)...), commit(id(9), "", id(1), id(1)), commit(id(9), "", id(1), id(2), id(1)), commit(id(9), "", id(1), id(2), id(3), id(3)), commit(id(9), "", id(1), id(2), id(3), id(1)), commit(id(9), "", id(1), id(2), id(2), id(3)), commit(id(9), "", api.ID{}, api.ID{}), commit(id(9), "", id(1), id(1), id(1), id(1), id(1)),
		commit(id(9), long(201)), commit(id(9), long(202)), commit(id(9), long(4000)), commit(id(9), long(201), ids(4)...),
		tag(blobKind, id(3), long(201)), tag(tagKind, id(3), long(201)), tag(treeKind, id(3), long(1<<16)),
	}
	for _, kind := range []int{0, 3, 4, 5, -1, 255, 256, 257, 258, 1<<32 + 1, math.MaxInt, math.MinInt} {
		l = append(l, tree(entry("a", kind)), tree(entry("a", blobKind), entry("b", kind)), tree(entry("a", kind), entry("b", treeKind)))
		if kind != 3 && kind != 4 {
			l = append(l, tag(kind, id(3), "m"), tag(kind, api.ID{}, ""))
		}
	}
	return append(l, mixed()...)
}

// others are what an object may have beside its kind: each field, by the kinds that have it.
func others() []struct {
	of  []int
	put func(o *api.Object)
} {
	return []struct {
		of  []int
		put func(o *api.Object)
	}{
		{[]int{blobKind}, func(o *api.Object) { o.Data = []byte{0} }},
		{[]int{blobKind}, func(o *api.Object) { o.Data = []byte("data") }},
		{[]int{treeKind}, func(o *api.Object) { o.Entries = []api.Entry{{}} }},
		{[]int{treeKind}, func(o *api.Object) { o.Entries = []api.Entry{entry("a", blobKind)} }},
		{[]int{commitKind}, func(o *api.Object) { o.Tree = id(5) }},
		{[]int{commitKind}, func(o *api.Object) { o.Tree[0] = 1 }},
		{[]int{commitKind}, func(o *api.Object) { o.Tree[31] = 1 }},
		{[]int{commitKind}, func(o *api.Object) { o.Parents = []api.ID{{}} }},
		{[]int{commitKind}, func(o *api.Object) { o.Parents = ids(2) }},
		{[]int{tagKind}, func(o *api.Object) { o.Target.Kind = blobKind }},
		{[]int{tagKind}, func(o *api.Object) { o.Target.Kind = -1 }},
		{[]int{tagKind}, func(o *api.Object) { o.Target.ID[31] = 1 }},
		{[]int{tagKind}, func(o *api.Object) { o.Target = api.Link{Kind: treeKind, ID: id(5)} }},
		{[]int{commitKind, tagKind}, func(o *api.Object) { o.Message = "m" }},
		{[]int{commitKind, tagKind}, func(o *api.Object) { o.Message = "\x00" }},
	}
}

// plainest are one object of each kind.
func plainest() []api.Object {
	return []api.Object{blob("ab"), tree(entry("a", blobKind)), commit(id(9), "m", id(1)), tag(commitKind, id(3), "m"), blob(""), tree(), commit(api.ID{}, ""), tag(blobKind, api.ID{}, "")}
}

// mixed are objects of each kind, and of none, with something that another kind has.
func mixed() []api.Object {
	var l []api.Object
	for _, o := range append(plainest(), api.Object{}, api.Object{Kind: 5}, api.Object{Kind: -1}) {
		for _, x := range others() {
			if slices.Contains(x.of, o.Kind) {
				continue
			}
			wrong := o
			x.put(&wrong)
			l = append(l, wrong)
		}
	}
	return l
}

// plainBytes are an object's bytes, by the chapter's words.
func plainBytes(o api.Object) []byte {
	number := func(b []byte, n int) []byte { return binary.AppendUvarint(b, uint64(n)) }
	text := func(b []byte, s string) []byte { return append(number(b, len(s)), s...) }
	b := []byte{byte(o.Kind)}
	switch o.Kind {
	case blobKind:
		b = text(b, string(o.Data))
	case treeKind:
		b = number(b, len(o.Entries))
		for _, one := range o.Entries {
			b = append(append(text(b, one.Name), byte(one.Kind)), one.ID[:]...)
		}
	case commitKind:
		b = number(append(b, o.Tree[:]...), len(o.Parents))
		for _, parent := range o.Parents {
			b = append(b, parent[:]...)
		}
		b = text(b, o.Message)
	case tagKind:
		b = text(append(append(b, byte(o.Target.Kind)), o.Target.ID[:]...), o.Message)
	}
	return b
}

// plainLinks are what an object that may be refers to, by the chapter's words.
func plainLinks(o api.Object) []api.Link {
	var l []api.Link
	switch o.Kind {
	case treeKind:
		for _, one := range o.Entries {
			l = append(l, api.Link{Kind: one.Kind, ID: one.ID})
		}
	case commitKind:
		l = append(l, api.Link{Kind: treeKind, ID: o.Tree})
		for _, parent := range o.Parents {
			l = append(l, api.Link{Kind: commitKind, ID: parent})
		}
	case tagKind:
		l = append(l, o.Target)
	}
	return l
}

// plainMay says whether what was read by plainRead may be, by the chapter's words; it has nothing else.
func plainMay(o api.Object) bool {
	for i, one := range o.Entries {
		if len(one.Name) < 1 || len(one.Name) > 64 || strings.Contains(one.Name, "/") || strings.Contains(one.Name, "\x00") || one.Kind != 1 && one.Kind != 2 {
			return false
		}
		if i > 0 && bytes.Compare([]byte(o.Entries[i-1].Name), []byte(one.Name)) >= 0 {
			return false
		}
	}
	for i, one := range o.Parents {
		if slices.Contains(o.Parents[:i], one) {
			return false
		}
	}
	return o.Kind >= 1 && o.Kind <= 4 && len(o.Data) <= 1024 && len(o.Entries) <= 32 && len(o.Parents) <= 4 && len(o.Message) <= 200 && (o.Kind != tagKind || o.Target.Kind >= 1 && o.Target.Kind <= 4)
}

// plainRead reads what bytes may be, without asking anything: whether they are an object's, its own bytes tell.
func plainRead(b []byte) api.Object {
	raw := func(n int) []byte {
		one := make([]byte, n)
		b = b[copy(one, b):]
		return one
	}
	number := func(most int) int {
		n, size := binary.Uvarint(b)
		b = b[max(size, 0):]
		return int(min(n, uint64(most)))
	}
	text := func() string { return string(raw(number(2000))) }
	o := api.Object{Kind: int(raw(1)[0])}
	switch o.Kind {
	case blobKind:
		o.Data = []byte(text())
	case treeKind:
		for range number(40) {
			one := api.Entry{Name: text(), Kind: int(raw(1)[0])}
			one.ID = api.ID(raw(32))
			o.Entries = append(o.Entries, one)
		}
	case commitKind:
		o.Tree = api.ID(raw(32))
		for range number(10) {
			o.Parents = append(o.Parents, api.ID(raw(32)))
		}
		o.Message = text()
	case tagKind:
		o.Target.Kind = int(raw(1)[0])
		o.Target.ID = api.ID(raw(32))
		o.Message = text()
	}
	return o
}

// isNothing says whether an object has nothing, not even a list that is empty.
func isNothing(o api.Object) bool {
	return o.Kind == 0 && o.Data == nil && o.Entries == nil && o.Tree == api.ID{} && o.Parents == nil && o.Target == api.Link{} && o.Message == ""
}

// plainSame says whether two objects are the same, by what a text of them says.
func plainSame(a, b api.Object) bool {
	text := func(o api.Object) string {
		var s []byte
		for _, n := range []int{o.Kind, o.Target.Kind, len(o.Data), len(o.Entries), len(o.Parents), len(o.Message)} {
			s = binary.AppendVarint(s, int64(n))
		}
		s = append(append(append(append(s, o.Data...), o.Tree[:]...), o.Target.ID[:]...), o.Message...)
		for _, one := range o.Entries {
			s = append(binary.AppendVarint(binary.AppendVarint(s, int64(len(one.Name))), int64(one.Kind)), one.Name...)
			s = append(s, one.ID[:]...)
		}
		for _, one := range o.Parents {
			s = append(s, one[:]...)
		}
		return string(s)
	}
	return text(a) == text(b)
}

// readsAs says what bytes are, by Parse and by Kind; they are none's, if want is nothing.
func readsAs(t *testing.T, b []byte, want api.Object) {
	t.Helper()
	kept := bytes.Clone(b)
	o, e := object.Parse(b)
	kind := object.Kind(b)
	if !bytes.Equal(b, kept) {
		t.Fatalf("%x was changed to %x", kept, b)
	}
	if kind != want.Kind {
		t.Fatalf("%x: kind %d, not %d", b, kind, want.Kind)
	}
	if want.Kind == 0 {
		if e != api.ErrObject || !isNothing(o) {
			t.Fatalf("%x: error %d, %+v", b, e, o)
		}
		return
	}
	if e != api.OK || !plainSame(o, want) {
		t.Fatalf("%x: error %d, %+v, not %+v", b, e, o, want)
	}
	own, e := object.Encode(o)
	if e != api.OK || !bytes.Equal(own, b) {
		t.Fatalf("%x was read, and is written %x, error %d", b, own, e)
	}
	if one, e := object.ID(o); e != api.OK || one != sha256.Sum256(b) {
		t.Fatalf("%x was read, and has the id %x, error %d", b, one, e)
	}
}

// none says that bytes are no object's.
func none(t *testing.T, b []byte) {
	t.Helper()
	readsAs(t, b, api.Object{})
}

// whatever reads bytes, and holds it against plainRead; it says whether they are an object's.
func whatever(t *testing.T, b []byte) bool {
	t.Helper()
	want := plainRead(b)
	if !plainMay(want) || !bytes.Equal(plainBytes(want), b) {
		none(t, b)
		return false
	}
	readsAs(t, b, want)
	return true
}

// The numbers that the document lists.
func TestNumbers(t *testing.T) {
	if api.KindBlob != blobKind || api.KindTree != treeKind || api.KindCommit != commitKind || api.KindTag != tagKind || api.ErrObject != 70 || api.MaxObject != 4000 {
		t.Error("the numbers are others")
	}
}

// The chapter's examples.
func TestExamples(t *testing.T) {
	if b, e := object.Encode(blob("ab")); e != api.OK || !bytes.Equal(b, []byte{1, 2, 0x61, 0x62}) {
		t.Errorf("the blob ab: %x, error %d", b, e)
	}
	if b, e := object.Encode(tree()); e != api.OK || !bytes.Equal(b, []byte{2, 0}) {
		t.Errorf("the tree without entries: %x, error %d", b, e)
	}
	want := []api.Link{{Kind: treeKind, ID: id(9)}, {Kind: commitKind, ID: id(7)}, {Kind: commitKind, ID: id(8)}}
	if l := object.Links(commit(id(9), "m", id(7), id(8))); !slices.Equal(l, want) {
		t.Errorf("the commit's links: %v", l)
	}
	if o, e := object.Parse([]byte{2, 1}); e != api.ErrObject || !isNothing(o) {
		t.Errorf("02 01: %+v, error %d", o, e)
	}
}

// P7.1, P7.4: objects that may be, and their bytes, ids and kinds.
func TestGood(t *testing.T) {
	for _, o := range good() {
		if !plainMay(o) {
			t.Fatalf("%+v may not be, by the words", o)
		}
		if e := object.Check(o); e != api.OK {
			t.Errorf("%+v: error %d", o, e)
		}
		want := plainBytes(o)
		b, e := object.Encode(o)
		if e != api.OK || !bytes.Equal(b, want) {
			t.Errorf("%+v: %x, error %d", o, b, e)
		}
		if len(b) > api.MaxObject {
			t.Errorf("%+v has %d bytes", o, len(b))
		}
		if one, e := object.ID(o); e != api.OK || one != sha256.Sum256(want) {
			t.Errorf("%+v: id %x, error %d", o, one, e)
		}
		readsAs(t, want, o)
		if p, _ := object.Parse(want); !object.Same(o, p) || !object.Same(p, o) {
			t.Errorf("%+v was read as %+v", o, p)
		}
	}
}

// P7.1, P7.2: objects that may not be have no bytes, no id, no links.
func TestBad(t *testing.T) {
	for _, o := range bad() {
		if e := object.Check(o); e != api.ErrObject {
			t.Errorf("%+v: error %d", o, e)
		}
		if b, e := object.Encode(o); e != api.ErrObject || b != nil {
			t.Errorf("%+v: %x, error %d", o, b, e)
		}
		if one, e := object.ID(o); e != api.ErrObject || one != (api.ID{}) {
			t.Errorf("%+v: id %x, error %d", o, one, e)
		}
		if l := object.Links(o); l != nil {
			t.Errorf("%+v: links %v", o, l)
		}
		if o.Kind >= blobKind && o.Kind <= tagKind && !slices.ContainsFunc(mixed(), func(m api.Object) bool { return plainSame(m, o) }) {
			whatever(t, plainBytes(o))
			if len(o.Entries) == 0 && o.Target.Kind <= 255 && o.Target.Kind >= 0 {
				none(t, plainBytes(o))
			}
		}
	}
	if n := len(mixed()); n < 100 {
		t.Errorf("there are %d mixed ones", n)
	}
}

// P7.1: what is added to an object that may be, one thing at a time: nothing of another kind, whatever it is, and lists of another kind that are empty are nothing.
func TestNothingElse(t *testing.T) {
	for _, o := range good() {
		for _, x := range others() {
			wrong := object.Copy(o)
			x.put(&wrong)
			want := api.ErrObject
			if slices.Contains(x.of, o.Kind) {
				want = api.OK
				if len(wrong.Entries) == 1 && wrong.Entries[0].Name == "" || wrong.Target.Kind == -1 {
					want = api.ErrObject
				}
			}
			if e := object.Check(wrong); e != want {
				t.Errorf("%+v: error %d, not %d", wrong, e, want)
			}
		}
		empty := object.Copy(o)
		for i, list := range []func(){
			func() { empty.Data = append([]byte{}, empty.Data...) },
			func() { empty.Entries = append([]api.Entry{}, empty.Entries...) },
			func() { empty.Parents = append([]api.ID{}, empty.Parents...) },
		} {
			list()
			b, e := object.Encode(empty)
			if object.Check(empty) != api.OK || e != api.OK || !bytes.Equal(b, plainBytes(o)) || !object.Same(o, empty) {
				t.Errorf("%+v, list %d made of nothing: error %d", empty, i, e)
			}
		}
	}
}

// P7.1: each byte in an entry's name, at each place of some names, and as all of it.
func TestNames(t *testing.T) {
	for n := range 256 {
		want := api.OK
		if n == 0 || n == '/' {
			want = api.ErrObject
		}
		one := string([]byte{byte(n)})
		for _, name := range []string{one, "a" + one, one + "a", "a" + one + "a", "\xc3" + one, one + "\x80", long(63) + one, one + long(63), long(30) + one + long(30)} {
			if e := object.Check(named(name)); e != want {
				t.Errorf("%q: error %d", name, e)
			}
			whatever(t, plainBytes(named(name)))
		}
	}
	for size := range 140 {
		want := api.OK
		if size < 1 || size > 64 {
			want = api.ErrObject
		}
		if e := object.Check(named(long(size))); e != want {
			t.Errorf("a name of %d bytes: error %d", size, e)
		}
		if whatever(t, plainBytes(named(long(size)))) != (want == api.OK) {
			t.Errorf("a name of %d bytes is read otherwise", size)
		}
	}
}

// P7.1: pairs of names: they rise by their bytes, or may not be.
func TestNamesRise(t *testing.T) {
	names := []string{"\x01", "\x1f", " ", "!", ".", "0", "A", "Z", "a", "a\x01", "a.", "a0", "aa", "aaa", "ab", "b", "ba", "\x7f", "\x80", "\xbf", "\xc3\xa4", "\xc3\xb6", "\xe2\x82\xac", "\xef\xbf\xbd", "\xf0\x9f\x98\x80", "\xff", "\xff\xff"}
	for i, a := range names {
		for j, b := range names {
			want := api.OK
			if i >= j {
				want = api.ErrObject
			}
			if e := object.Check(named(a, b)); e != want {
				t.Errorf("%q, %q: error %d", a, b, e)
			}
			if whatever(t, plainBytes(named(a, b))) != (want == api.OK) {
				t.Errorf("%q, %q are read otherwise", a, b)
			}
			for k, c := range names {
				want := api.OK
				if i >= j || j >= k {
					want = api.ErrObject
				}
				if e := object.Check(named(a, b, c)); e != want {
					t.Errorf("%q, %q, %q: error %d", a, b, c, e)
				}
			}
		}
	}
	for at := range 32 { // the same two, at each place of a tree that is full
		l := many(33, 64)
		full := named(slices.Concat(l[:at], l[at+1:])...)
		twice := object.Copy(full)
		twice.Entries[at].Name = twice.Entries[(at+31)%32].Name
		if object.Check(full) != api.OK || object.Check(twice) != api.ErrObject {
			t.Errorf("place %d: it is wrong", at)
		}
		none(t, plainBytes(twice))
	}
}

// P7.1: how many there may be of each thing, up to its bound and above.
func TestHowMany(t *testing.T) {
	hold := func(o api.Object, count, most int) {
		t.Helper()
		want := api.OK
		if count > most {
			want = api.ErrObject
		}
		if e := object.Check(o); e != want {
			t.Errorf("kind %d, %d: error %d", o.Kind, count, e)
		}
		if whatever(t, plainBytes(o)) != (want == api.OK) {
			t.Errorf("kind %d, %d: it is read otherwise", o.Kind, count)
		}
	}
	for count := range 1100 {
		hold(blob(long(count)), count, 1024)
	}
	for count := range 40 {
		hold(named(many(count, 3)...), count, 32)
	}
	for count := range 10 {
		hold(commit(id(99), "m", ids(count)...), count, 4)
	}
	for count := range 300 {
		hold(commit(id(99), long(count), ids(2)...), count, 200)
		hold(tag(1+count%4, id(99), long(count)), count, 200)
	}
}

// P7.1: two parents that are the same, at each two places, and unlike ones that differ in one byte.
func TestParents(t *testing.T) {
	for count := 2; count <= 4; count++ {
		for i := range count {
			for j := range i {
				l := ids(count)
				l[i] = l[j]
				if e := object.Check(commit(id(9), "m", l...)); e != api.ErrObject {
					t.Errorf("of %d parents %d and %d are the same: error %d", count, j, i, e)
				}
				none(t, plainBytes(commit(id(9), "m", l...)))
				for _, at := range []int{0, 15, 31} {
					l[i] = l[j]
					l[i][at]++
					if e := object.Check(commit(id(9), "m", l...)); e != api.OK {
						t.Errorf("of %d parents %d and %d differ in byte %d: error %d", count, j, i, at, e)
					}
				}
			}
		}
	}
}

// P7.1: bytes that end too early, at each place, and that have more behind them.
func TestCutAndMore(t *testing.T) {
	none(t, nil)
	none(t, []byte{})
	for _, o := range good() {
		b := plainBytes(o)
		for size := range b {
			none(t, b[:size])
		}
		for _, tail := range [][]byte{{0}, {1}, {0x80}, {0xFF}, {0, 0}, {2, 0}, b, make([]byte, 32), make([]byte, 5000)} {
			none(t, slices.Concat(b, tail))
		}
	}
	for _, size := range []int{1, 2, 33, 4000, 4001, 1 << 16} {
		for n := range 256 {
			whatever(t, bytes.Repeat([]byte{byte(n)}, size))
		}
	}
}

// in puts other bytes into some, in place of those from one place to another one.
func in(b []byte, from, to int, other ...byte) []byte {
	return slices.Concat(b[:from], other, b[to:])
}

// P7.1: numbers that are not the shortest, and above their bounds, at each place where one stands.
func TestNumbersWrong(t *testing.T) {
	long200 := commit(id(9), long(200), ids(4)...)
	for _, x := range []struct {
		o    api.Object
		at   int // where a number stands
		size int // its bytes
	}{
		{blob(""), 1, 1}, {blob("ab"), 1, 1}, {blob(long(127)), 1, 1}, {blob(long(128)), 1, 2}, {blob(long(1024)), 1, 2},
		{tree(), 1, 1}, {named("a"), 1, 1}, {named(many(32, 64)...), 1, 1}, {named("a"), 2, 1}, {named(long(64)), 2, 1}, {named("a", "b"), 2 + 35, 1},
		{commit(id(9), "m"), 33, 1}, {commit(id(9), "m", id(1)), 33, 1}, {long200, 33, 1}, {commit(id(9), "m"), 34, 1}, {commit(id(9), ""), 34, 1}, {commit(id(9), long(127)), 34, 1}, {commit(id(9), long(128)), 34, 2}, {long200, 34 + 128, 2},
		{tag(1, id(9), ""), 34, 1}, {tag(1, id(9), "m"), 34, 1}, {tag(1, id(9), long(200)), 34, 2},
		{blob("ab"), 0, 1}, {tree(), 0, 1}, {commit(id(9), ""), 0, 1}, {tag(1, id(9), ""), 0, 1}, {tag(2, id(9), ""), 1, 1}, {named("a"), 4, 1}, // kinds: one byte alone
	} {
		b := plainBytes(x.o)
		readsAs(t, b, x.o)
		n, size := binary.Uvarint(b[x.at:])
		if size != x.size {
			t.Fatalf("%x: at %d stands %d of %d bytes", b, x.at, n, size)
		}
		number := b[x.at : x.at+size]
		for noughts := range 12 { // the same number, with noughts above
			longer := append(bytes.Clone(number), bytes.Repeat([]byte{0x80}, noughts)...)
			longer[size-1] |= 0x80
			none(t, in(b, x.at, x.at+size, append(longer, 0)...))
			none(t, in(b, x.at, x.at+size, longer...))
		}
		for _, other := range []uint64{n + 1<<32, n + 1<<63, n | 1<<31, 201, 1025, 1 << 16, 1 << 31, 1 << 32, 1<<63 - 1, 1 << 63, math.MaxUint64} {
			none(t, in(b, x.at, x.at+size, binary.AppendUvarint(nil, other)...))
		}
		for other := range uint64(1100) {
			if whatever(t, in(b, x.at, x.at+size, binary.AppendUvarint(nil, other)...)) && other != n && other > 4 {
				t.Errorf("%x: at %d stands %d", b, x.at, other)
			}
		}
	}
}

// P7.1: a length, or a count, above its bound, with as many behind it.
func TestAboveBounds(t *testing.T) {
	for _, o := range []api.Object{blob(long(1025)), named(many(33, 1)...), named(long(65)), named("a", long(65)), commit(id(9), "", ids(5)...), commit(id(9), long(201)), tag(1, id(9), long(201)), named(""), tag(0, id(9), ""), tag(5, id(9), ""), tag(255, id(9), ""), tree(entry("a", 0)), tree(entry("a", 3)), tree(entry("a", 4)), tree(entry("a", 5)), tree(entry("a", 255))} {
		none(t, plainBytes(o))
	}
	for kind := range 256 { // of no kind
		if kind >= blobKind && kind <= tagKind {
			continue
		}
		for _, o := range plainest() {
			b := plainBytes(o)
			b[0] = byte(kind)
			none(t, b)
			none(t, b[:1])
		}
	}
}

// P7.1, P7.4: each byte turned to each other one: what is read then has just these bytes.
func TestTurned(t *testing.T) {
	read, refused := 0, 0
	turn := func(o api.Object, masks int) {
		b := plainBytes(o)
		for at := range b {
			for m := 1; m < 256; m += masks {
				b[at] ^= byte(m)
				if whatever(t, b) {
					read++
				} else {
					refused++
				}
				b[at] ^= byte(m)
			}
		}
		readsAs(t, b, o)
	}
	for _, o := range plainest() {
		turn(o, 1)
	}
	turn(named("a", "b"), 1)
	turn(named("ab", "ac", "b"), 1)
	turn(commit(id(9), "message", ids(4)...), 1)
	turn(named(many(32, 64)...), 127)
	turn(blob(long(1024)), 127)
	turn(commit(id(9), long(200), ids(4)...), 51)
	turn(tag(tagKind, id(9), long(200)), 51)
	if read < 20000 || refused < 5000 {
		t.Errorf("%d were read, %d refused", read, refused)
	}
}

// P7.1, P7.4: all rows of up to six bytes out of some, and of pieces of which objects are made.
func TestWhateverComes(t *testing.T) {
	rows := func(pieces []string, most int) int {
		read := 0
		var all func(b []byte, left int)
		all = func(b []byte, left int) {
			if whatever(t, b) {
				read++
			}
			if left == 0 {
				return
			}
			for _, one := range pieces {
				all(append(slices.Clone(b), one...), left-1)
			}
		}
		all(nil, most)
		return read
	}
	if n := rows([]string{"\x00", "\x01", "\x02", "\x03", "\x04", "\x05", "a", "\x80"}, 6); n < 1000 {
		t.Errorf("of bytes alone %d were read", n)
	}
	a, b := id(1), id(2)
	if n := rows([]string{"\x00", "\x01", "\x02", "\x03", "\x04", "\x01a\x01", "\x01b\x02", "\x02ab\x01", string(a[:]), string(b[:])}, 5); n < 100 {
		t.Errorf("of pieces %d were read", n)
	}
}

// P7.4: objects made by chance, read from their bytes as they were.
func TestMadeByChance(t *testing.T) {
	random := rand.New(rand.NewSource(7))
	text := func(most int) string {
		b := make([]byte, random.Intn(most+1))
		random.Read(b)
		return string(b)
	}
	for range 3000 {
		var o api.Object
		switch kind := 1 + random.Intn(4); kind {
		case blobKind:
			o = blob(text(1024))
		case treeKind:
			var names []string
			for range random.Intn(33) {
				if name := strings.NewReplacer("/", "", "\x00", "").Replace(text(64)); name != "" {
					names = append(names, name)
				}
			}
			slices.Sort(names)
			o = named(slices.Compact(names)...)
		case commitKind:
			o = commit(id(random.Intn(999)), text(200), ids(random.Intn(5))...)
		case tagKind:
			o = tag(1+random.Intn(4), id(random.Intn(999)), text(200))
		}
		b, e := object.Encode(o)
		if e != api.OK || !bytes.Equal(b, plainBytes(o)) || len(b) > api.MaxObject {
			t.Fatalf("%+v: %x, error %d", o, b, e)
		}
		readsAs(t, b, o)
		if l := object.Links(o); !slices.Equal(l, plainLinks(o)) {
			t.Fatalf("%+v: links %v", o, l)
		}
	}
}

// P7.4: the greatest object of each kind.
func TestGreatest(t *testing.T) {
	for _, x := range []struct {
		o    api.Object
		size int
	}{
		{blob(long(1024)), 1 + 2 + 1024},
		{named(many(32, 64)...), 1 + 1 + 32*(1+64+1+32)},
		{commit(id(9), long(200), ids(4)...), 1 + 32 + 1 + 4*32 + 2 + 200},
		{tag(tagKind, id(9), long(200)), 1 + 1 + 32 + 2 + 200},
	} {
		if b, e := object.Encode(x.o); e != api.OK || len(b) != x.size || len(b) > 4000 {
			t.Errorf("kind %d: %d bytes, error %d", x.o.Kind, len(b), e)
		}
	}
}

// P7.2: links of each kind, in the order in which they stand.
func TestLinks(t *testing.T) {
	for _, o := range good() {
		if l := object.Links(o); !slices.Equal(l, plainLinks(o)) {
			t.Errorf("%+v: links %v", o, l)
		}
	}
	falling := tree(api.Entry{Name: "a", Kind: treeKind, ID: api.ID{9}}, api.Entry{Name: "b", Kind: blobKind, ID: api.ID{1}}, api.Entry{Name: "c", Kind: blobKind, ID: api.ID{9}})
	for _, x := range []struct {
		o    api.Object
		want []api.Link
	}{
		{blob("ab"), nil},
		{tree(), nil},
		{falling, []api.Link{{Kind: treeKind, ID: api.ID{9}}, {Kind: blobKind, ID: api.ID{1}}, {Kind: blobKind, ID: api.ID{9}}}},
		{commit(api.ID{5}, ""), []api.Link{{Kind: treeKind, ID: api.ID{5}}}},
		{commit(api.ID{5}, "m", api.ID{9}, api.ID{1}, api.ID{5}), []api.Link{{Kind: treeKind, ID: api.ID{5}}, {Kind: commitKind, ID: api.ID{9}}, {Kind: commitKind, ID: api.ID{1}}, {Kind: commitKind, ID: api.ID{5}}}},
		{tag(blobKind, api.ID{3}, ""), []api.Link{{Kind: blobKind, ID: api.ID{3}}}},
		{tag(treeKind, api.ID{3}, ""), []api.Link{{Kind: treeKind, ID: api.ID{3}}}},
		{tag(commitKind, api.ID{3}, ""), []api.Link{{Kind: commitKind, ID: api.ID{3}}}},
		{tag(tagKind, api.ID{3}, "m"), []api.Link{{Kind: tagKind, ID: api.ID{3}}}},
		{tag(5, api.ID{3}, "m"), nil}, {named("b", "a"), nil}, {commit(api.ID{5}, long(201)), nil}, {commit(api.ID{5}, "", api.ID{9}, api.ID{9}), nil}, {api.Object{Tree: api.ID{1}}, nil},
	} {
		if l := object.Links(x.o); !slices.Equal(l, x.want) {
			t.Errorf("%+v: links %v", x.o, l)
		}
	}
}

// turns are what an object may be turned to, one field at a time; each leaves another object.
func turns() []func(o *api.Object) {
	return []func(o *api.Object){
		func(o *api.Object) { o.Kind++ },
		func(o *api.Object) { o.Kind = -o.Kind - 1 },
		func(o *api.Object) { o.Data = append(o.Data, 0) },
		func(o *api.Object) { o.Data = append([]byte{7}, o.Data...) },
		func(o *api.Object) { o.Entries = append(o.Entries, api.Entry{}) },
		func(o *api.Object) { o.Tree[0]++ },
		func(o *api.Object) { o.Tree[31]++ },
		func(o *api.Object) { o.Parents = append(o.Parents, api.ID{}) },
		func(o *api.Object) { o.Target.Kind++ },
		func(o *api.Object) { o.Target.ID[0]++ },
		func(o *api.Object) { o.Target.ID[31]++ },
		func(o *api.Object) { o.Message += "\x00" },
		func(o *api.Object) { o.Message = "x" + o.Message },
	}
}

// inner are what a full object's lists may be turned to, in place.
func inner() []func(o *api.Object) {
	return []func(o *api.Object){
		func(o *api.Object) { o.Data[0]++ },
		func(o *api.Object) { o.Data[len(o.Data)-1]++ },
		func(o *api.Object) { o.Entries[0].Name = "other" },
		func(o *api.Object) { o.Entries[0].Kind++ },
		func(o *api.Object) { o.Entries[0].ID[31]++ },
		func(o *api.Object) { o.Entries[1].Name += "\x00" },
		func(o *api.Object) { o.Entries[1].Kind-- },
		func(o *api.Object) { o.Entries[1].ID[0]++ },
		func(o *api.Object) { o.Parents[0][0]++ },
		func(o *api.Object) { o.Parents[1][31]++ },
		func(o *api.Object) { slices.Reverse(o.Entries) },
		func(o *api.Object) { slices.Reverse(o.Parents) },
		func(o *api.Object) { clear(o.Data) },
		func(o *api.Object) { clear(o.Entries) },
		func(o *api.Object) { clear(o.Parents) },
	}
}

// full is an object that has all, and may not be.
func full() api.Object {
	return api.Object{Kind: 7, Data: []byte("data"), Entries: []api.Entry{entry("b", 1), entry("a/", 9)}, Tree: id(1), Parents: ids(2), Target: api.Link{Kind: -3, ID: id(2)}, Message: "message"}
}

// P7.2: objects that differ in one field are not the same; nothing and empty are, in each list.
func TestSame(t *testing.T) {
	samples := slices.Concat(good(), bad(), []api.Object{full()})
	for _, o := range samples {
		if !object.Same(o, o) || !object.Same(o, object.Copy(o)) {
			t.Errorf("%+v is not the same as itself", o)
		}
		for n, turn := range turns() {
			other := object.Copy(o)
			turn(&other)
			if object.Same(o, other) || object.Same(other, o) {
				t.Errorf("%+v, turned by %d, is the same", o, n)
			}
		}
	}
	for n, turn := range inner() {
		o, other := full(), full()
		turn(&other)
		if object.Same(o, other) || object.Same(other, o) {
			t.Errorf("turned by %d, inside, it is the same", n)
		}
	}
	for _, a := range samples {
		for _, b := range samples {
			if got := object.Same(a, b); got != plainSame(a, b) {
				t.Fatalf("%+v and %+v are the same: %v", a, b, got)
			}
		}
	}
	for kind := range 6 {
		nothing := api.Object{Kind: kind}
		empty := api.Object{Kind: kind, Data: []byte{}, Entries: []api.Entry{}, Parents: []api.ID{}}
		if !object.Same(nothing, empty) || !object.Same(empty, nothing) || !object.Same(empty, empty) || !object.Same(nothing, nothing) {
			t.Errorf("kind %d: nothing is not empty", kind)
		}
	}
	if object.Same(tree(entry("a", 1)), tree(entry("a", 1), entry("b", 1))) || object.Same(commit(id(1), "", id(2)), commit(id(1), "")) || object.Same(blob("a"), blob("ab")) {
		t.Error("a list is the same as its beginning")
	}
}

// P7.2, P7.3: a copy is the same, whatever it is of, and either may be turned afterwards.
func TestCopy(t *testing.T) {
	for _, o := range slices.Concat(good(), bad(), []api.Object{full()}) {
		if c := object.Copy(o); !plainSame(c, o) || object.Check(c) != object.Check(o) {
			t.Errorf("%+v was copied as %+v", o, c)
		}
	}
	for n, turn := range slices.Concat(turns(), inner()) {
		o := full()
		c := object.Copy(o)
		turn(&c)
		if !plainSame(o, full()) {
			t.Errorf("the copy was turned by %d, and with it what it was made of", n)
		}
		o = full()
		c = object.Copy(o)
		turn(&o)
		if !plainSame(c, full()) {
			t.Errorf("what was copied was turned by %d, and with it the copy", n)
		}
	}
	c := object.Copy(full())
	d := object.Copy(c)
	c.Data, c.Entries, c.Parents = append(c.Data[:1], "xyz.."...), append(c.Entries[:1], api.Entry{}), append(c.Parents[:1], api.ID{})
	if !plainSame(d, full()) {
		t.Error("two copies share memory")
	}
	if !isNothing(object.Copy(api.Object{})) {
		t.Error("a copy of nothing is something")
	}
}

// P7.3: what is handed in stays as it was, its lists' memory behind their ends too.
func TestOnlyRead(t *testing.T) {
	for _, o := range slices.Concat(good(), bad(), []api.Object{full()}) {
		o.Data = append(bytes.Clone(o.Data), "behind"...)
		o.Entries = append(slices.Clone(o.Entries), entry("behind", 1))
		o.Parents = append(slices.Clone(o.Parents), id(77))
		whole := object.Copy(o)
		o.Data, o.Entries, o.Parents = o.Data[:len(o.Data)-6], o.Entries[:len(o.Entries)-1], o.Parents[:len(o.Parents)-1]
		short := object.Copy(o)
		object.Check(o)
		object.Encode(o)
		object.ID(o)
		object.Links(o)
		object.Same(o, short)
		object.Same(short, o)
		object.Copy(o)
		if !plainSame(o, short) {
			t.Fatalf("%+v was changed to %+v", short, o)
		}
		o.Data, o.Entries, o.Parents = o.Data[:len(o.Data)+6], o.Entries[:len(o.Entries)+1], o.Parents[:len(o.Parents)+1]
		if !plainSame(o, whole) {
			t.Fatalf("behind its lists %+v was changed to %+v", whole, o)
		}
	}
}

// P7.3: what is answered lies in memory of its own.
func TestNewMemory(t *testing.T) {
	for _, o := range good() {
		want := plainBytes(o)
		one, _ := object.Encode(o)
		clear(one[:cap(one)])
		if two, _ := object.Encode(o); !bytes.Equal(two, want) {
			t.Fatalf("%+v: its bytes are kept", o)
		}
		l := object.Links(o)
		clear(l[:cap(l)])
		if !bytes.Equal(plainBytes(o), want) || !slices.Equal(object.Links(o), plainLinks(o)) {
			t.Fatalf("%+v: its links share memory", o)
		}
		kept := object.Copy(o)
		b := bytes.Clone(want)
		p, _ := object.Parse(b)
		q, _ := object.Parse(b)
		clear(b)
		if !plainSame(p, kept) {
			t.Fatalf("%+v changes with the bytes that it was read from", kept)
		}
		clear(p.Data[:cap(p.Data)])
		clear(p.Entries[:cap(p.Entries)])
		clear(p.Parents[:cap(p.Parents)])
		if !plainSame(q, kept) {
			t.Fatalf("%+v: what was read twice shares memory", kept)
		}
		b = bytes.Clone(want)
		p, _ = object.Parse(b)
		clear(p.Data)
		clear(p.Entries)
		clear(p.Parents)
		if !bytes.Equal(b, want) {
			t.Fatalf("%+v: what was read shares memory with its bytes", kept)
		}
		encoded, _ := object.Encode(o)
		clear(o.Data)
		clear(o.Entries)
		clear(o.Parents)
		if !bytes.Equal(encoded, want) {
			t.Fatalf("%+v: its bytes change with it", kept)
		}
	}
}

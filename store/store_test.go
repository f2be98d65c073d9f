package store_test

import (
	"bytes"
	"crypto/sha256"
	"math"
	"math/rand"
	"slices"
	"strings"
	"testing"

	"marshes/api"
	"marshes/object"
	"marshes/store"
)

// blob is the bytes of one: its kind, its length (below 128), its data.
func blob(data string) []byte {
	return append([]byte{1, byte(len(data))}, data...)
}

// encoded is an object's bytes.
func encoded(t testing.TB, o api.Object) []byte {
	t.Helper()
	b, e := object.Encode(o)
	if e != api.OK {
		t.Fatal(o, e)
	}
	return b
}

func idOf(b []byte) api.ID { return sha256.Sum256(b) }

// kinds are objects, one or two of each kind, whose links need not be there.
func kinds() []api.Object {
	tree := api.Object{Kind: api.KindTree, Entries: []api.Entry{
		{Name: "a", Kind: api.KindBlob, ID: idOf(blob("a"))},
		{Name: "b", Kind: api.KindTree, ID: idOf([]byte{2, 0})},
	}}
	commit := api.Object{Kind: api.KindCommit, Tree: idOf([]byte{2, 0}), Parents: []api.ID{{1}, {2}}, Message: "what it is"}
	tag := api.Object{Kind: api.KindTag, Target: api.Link{Kind: api.KindCommit, ID: api.ID{3}}, Message: "one"}
	return []api.Object{
		{Kind: api.KindBlob},
		{Kind: api.KindBlob, Data: []byte("some bytes")},
		{Kind: api.KindBlob, Data: bytes.Repeat([]byte{7}, api.MaxBlob)},
		{Kind: api.KindTree},
		tree,
		greatTree(),
		commit,
		tag,
	}
}

// greatTree is one of the most bytes that an object can have.
func greatTree() api.Object {
	o := api.Object{Kind: api.KindTree}
	for n := range api.MaxEntries {
		name := strings.Repeat("n", api.MaxEntry-1) + string(rune('A'+n))
		o.Entries = append(o.Entries, api.Entry{Name: name, Kind: api.KindBlob, ID: api.ID{byte(n)}})
	}
	return o
}

// noObjects are bytes that are none's.
func noObjects() [][]byte {
	return [][]byte{
		nil, {}, {0}, {1}, {5, 0}, {1, 1}, {1, 0, 0}, {2, 1}, {1, 0x80, 0}, {255, 255},
		blob("ab")[:3], append(blob("ab"), 0), bytes.Repeat([]byte{1}, 5000),
	}
}

func made(t testing.TB, quota int) *store.Store {
	t.Helper()
	s, e := store.New(quota)
	if s == nil || e != api.OK {
		t.Fatal(quota, s, e)
	}
	return s
}

// filled is a store with these objects, and no room for more unless it is given.
func filled(t testing.TB, room int, l ...[]byte) *store.Store {
	t.Helper()
	p := plain{quota: api.MaxQuota}
	for _, b := range l {
		p.put(b)
	}
	s := made(t, p.size()+room)
	for _, b := range l {
		if id, e := s.Put(b); id != idOf(b) || e != api.OK {
			t.Fatal(b, id, e)
		}
	}
	return s
}

// A plain store is the chapter's words: a list of objects' bytes in the order in which they were put.
type plain struct {
	quota int
	has   [][]byte
}

func (p *plain) size() int { return len(bytes.Join(p.has, nil)) }

func (p *plain) get(id api.ID) []byte {
	for _, b := range p.has {
		if idOf(b) == id {
			return b
		}
	}
	return nil
}

func (p *plain) put(b []byte) api.Errno {
	if _, e := object.Parse(b); e != api.OK {
		return api.ErrObject
	}
	if p.get(idOf(b)) != nil {
		return api.OK
	}
	if p.size()+len(b) > p.quota {
		return api.ErrQuota
	}
	p.has = append(slices.Clip(p.has), bytes.Clone(b))
	return api.OK
}

func (p *plain) putAll(l [][]byte) (int, api.Errno) {
	before := p.has
	for place, b := range l {
		if e := p.put(b); e != api.OK {
			p.has = before
			return place, e
		}
	}
	return len(l), api.OK
}

// ids are those of the objects, by a plain sort.
func (p *plain) ids() []api.ID {
	var l []api.ID
	for _, b := range p.has {
		l = append(l, idOf(b))
	}
	slices.SortFunc(l, func(a, b api.ID) int { return strings.Compare(string(a[:]), string(b[:])) })
	return l
}

// agree asks a store all that can be asked, and of ids that are not there too.
func agree(t testing.TB, s *store.Store, p *plain, absent ...[]byte) {
	t.Helper()
	if s.Len() != len(p.has) || s.Size() != p.size() || s.Left() != p.quota-p.size() {
		t.Fatalf("Len %d, Size %d, Left %d, wanted %d, %d, %d", s.Len(), s.Size(), s.Left(), len(p.has), p.size(), p.quota-p.size())
	}
	if ids := s.IDs(); !slices.Equal(ids, p.ids()) {
		t.Fatal("IDs", ids, p.ids())
	}
	for _, b := range slices.Concat(p.has, absent) {
		agreeOn(t, s, idOf(b), p.get(idOf(b)))
	}
	agreeOn(t, s, api.ID{}, nil)
	last := api.ID{}
	for i := range last {
		last[i] = 255
	}
	agreeOn(t, s, last, nil)
}

// agreeOn asks for one id; want is nil if it is not to be there.
func agreeOn(t testing.TB, s *store.Store, id api.ID, want []byte) {
	t.Helper()
	b, there := s.Get(id)
	if there != (want != nil) || !bytes.Equal(b, want) {
		t.Fatal("Get", id, b, there, want)
	}
	o, there := s.Object(id)
	wanted, _ := object.Parse(want)
	if there != (want != nil) || !object.Same(o, wanted) {
		t.Fatal("Object", id, o, there, wanted)
	}
	if k := s.Kind(id); k != wanted.Kind {
		t.Fatal("Kind", id, k, wanted.Kind)
	}
}

// P8.1, P8.2: the chapter's example.
func TestExample(t *testing.T) {
	s := made(t, 5)
	for _, c := range []struct {
		b  []byte
		id api.ID
		e  api.Errno
	}{
		{blob("ab"), idOf([]byte{1, 2, 'a', 'b'}), api.OK},
		{blob("ab"), idOf([]byte{1, 2, 'a', 'b'}), api.OK},
		{blob(""), api.ID{}, api.ErrQuota},
	} {
		if id, e := s.Put(c.b); id != c.id || e != c.e {
			t.Error(c.b, id, e)
		}
	}
	if s.Len() != 1 || s.Size() != 4 || s.Left() != 1 {
		t.Error(s.Len(), s.Size(), s.Left())
	}
}

// P8.1: which quotas may be, and a new store has nothing.
func TestNew(t *testing.T) {
	for _, quota := range []int{0, 1, 2, 4096, 1<<30 - 1, 1 << 30} {
		agree(t, made(t, quota), &plain{quota: quota}, blob(""), blob("ab"))
	}
	for _, quota := range []int{-1, -2, -1 << 30, math.MinInt, 1<<30 + 1, 1 << 31, math.MaxInt} {
		if s, e := store.New(quota); s != nil || e != api.ErrArg {
			t.Error(quota, s, e)
		}
	}
}

// P8.1: in a store of quota 0 there is room for no object, and for an empty list.
func TestNoQuota(t *testing.T) {
	s := made(t, 0)
	for _, o := range kinds() {
		b := encoded(t, o)
		if id, e := s.Put(b); id != (api.ID{}) || e != api.ErrQuota {
			t.Error(b, id, e)
		}
		if n, e := s.PutAll([][]byte{b}); n != 0 || e != api.ErrQuota {
			t.Error(b, n, e)
		}
	}
	if n, e := s.PutAll(nil); n != 0 || e != api.OK {
		t.Error(n, e)
	}
	agree(t, s, &plain{}, blob(""))
}

// P8.1, P8.2: each call on none, and on a store that New did not make, also where its arguments are wrong.
func TestNone(t *testing.T) {
	var zero store.Store
	for _, s := range []*store.Store{nil, &zero, new(store.Store)} {
		for _, b := range append(noObjects(), blob(""), blob("ab")) {
			if id, e := s.Put(b); id != (api.ID{}) || e != api.ErrNil {
				t.Error("Put", b, id, e)
			}
			for _, l := range [][][]byte{nil, {}, {b}, {blob("x"), b}} {
				if n, e := s.PutAll(l); n != 0 || e != api.ErrNil {
					t.Error("PutAll", l, n, e)
				}
			}
			if b, there := s.Get(idOf(b)); b != nil || there {
				t.Error("Get", b, there)
			}
			if o, there := s.Object(idOf(b)); !object.Same(o, api.Object{}) || there {
				t.Error("Object", o, there)
			}
			if k := s.Kind(idOf(b)); k != 0 {
				t.Error("Kind", k)
			}
		}
		if ids := s.IDs(); len(ids) != 0 {
			t.Error("IDs", ids)
		}
		if s.Len() != 0 || s.Size() != 0 || s.Left() != 0 {
			t.Error(s.Len(), s.Size(), s.Left())
		}
		if c := s.Copy(); c != nil {
			t.Error("Copy", c)
		}
	}
}

// P8.1: bytes that are no object's, whether there is room or none.
func TestPutNoObject(t *testing.T) {
	for _, room := range []int{0, 1, 3, 1 << 20} {
		s := filled(t, room, blob("there"))
		p := &plain{quota: s.Size() + room, has: [][]byte{blob("there")}}
		for _, b := range noObjects() {
			if id, e := s.Put(b); id != (api.ID{}) || e != api.ErrObject {
				t.Error(b, id, e)
			}
			agree(t, s, p, noObjects()...)
		}
	}
}

// P8.1, P8.2: an object of each kind, with just enough room, with one byte less, and where it is there already.
func TestPutKinds(t *testing.T) {
	for _, o := range kinds() {
		b := encoded(t, o)
		for _, others := range [][][]byte{nil, {blob("x")}, {blob("x"), blob("yy")}} {
			s := filled(t, len(b)-1, others...)
			p := &plain{quota: s.Size() + len(b) - 1, has: others}
			if id, e := s.Put(b); id != (api.ID{}) || e != api.ErrQuota {
				t.Error(o.Kind, len(b), id, e)
			}
			agree(t, s, p, b)

			s = filled(t, len(b), others...)
			p = &plain{quota: s.Size() + len(b), has: others}
			for range 3 { // the second and the third time it is there, and no room is left
				if id, e := s.Put(b); id != idOf(b) || e != api.OK {
					t.Error(o.Kind, len(b), id, e)
				}
				p.put(b)
				agree(t, s, p, blob("absent"))
			}
			if s.Left() != 0 || s.Kind(idOf(b)) != o.Kind {
				t.Error(s.Left(), s.Kind(idOf(b)))
			}
			if got, there := s.Object(idOf(b)); !there || !object.Same(got, o) {
				t.Error(got, there)
			}
		}
	}
}

// P8.1: what is answered to lists of which all can be put.
func TestPutAll(t *testing.T) {
	a, b, c := blob("a"), blob("bb"), blob("ccc") // of 3, 4 and 5 bytes
	for _, k := range []struct {
		name  string
		quota int
		there [][]byte
		l     [][]byte
		left  int
	}{
		{"nothing", 9, nil, nil, 9},
		{"an empty list", 9, nil, [][]byte{}, 9},
		{"nothing, without room", 3, [][]byte{a}, nil, 0},
		{"one", 9, nil, [][]byte{a}, 6},
		{"all that there is room for", 12, nil, [][]byte{a, b, c}, 0},
		{"the same twice", 7, nil, [][]byte{a, a, b}, 0},
		{"the same twice, apart", 7, nil, [][]byte{a, b, a, b, a}, 0},
		{"there already", 3, [][]byte{a}, [][]byte{a}, 0},
		{"there already, as the first", 12, [][]byte{a}, [][]byte{a, b, c}, 0},
		{"there already, as the last", 12, [][]byte{a, b}, [][]byte{c, b, a}, 0},
		{"there already, twice", 7, [][]byte{a}, [][]byte{a, b, a, b}, 0},
	} {
		s := made(t, k.quota)
		p := &plain{quota: k.quota}
		for _, b := range k.there {
			s.Put(b)
			p.put(b)
		}
		n, e := s.PutAll(k.l)
		if n != len(k.l) || e != api.OK || s.Left() != k.left {
			t.Error(k.name, n, e, s.Left())
		}
		p.putAll(k.l)
		agree(t, s, p, a, b, c)
	}
}

// P8.1: a list whose first, middle or last one cannot be put: its place, and none of the list is there.
func TestPutAllFails(t *testing.T) {
	good := [][]byte{blob("a"), blob("b"), blob("c"), blob("d")}
	great := encoded(t, greatTree())
	for _, there := range [][][]byte{nil, {blob("before")}, {blob("a")}, {blob("before"), blob("b"), blob("d")}} {
		for _, k := range []struct {
			bad []byte
			e   api.Errno
		}{{great, api.ErrQuota}, {[]byte{1, 1}, api.ErrObject}, {nil, api.ErrObject}, {make([]byte, 1<<20), api.ErrObject}} {
			for place := range len(good) + 1 {
				s := filled(t, 100, there...)
				p := &plain{quota: s.Size() + 100, has: there}
				l := slices.Insert(slices.Clone(good), place, k.bad)
				for range 2 {
					if n, e := s.PutAll(l); n != place || e != k.e {
						t.Error(place, k.e, n, e)
					}
					agree(t, s, p, l...)
				}
				if n, e := s.PutAll(good); n != len(good) || e != api.OK {
					t.Error(place, n, e)
				}
			}
		}
	}
}

// P8.1: the first of a list that cannot be put is told, whatever stands behind it.
func TestPutAllFirst(t *testing.T) {
	no, great, small := []byte{1, 1}, encoded(t, greatTree()), blob("a")
	for _, k := range []struct {
		l     [][]byte
		place int
		e     api.Errno
	}{
		{[][]byte{small, no, great}, 1, api.ErrObject},
		{[][]byte{small, great, no}, 1, api.ErrQuota},
		{[][]byte{great, great, small}, 0, api.ErrQuota},
		{[][]byte{no, no}, 0, api.ErrObject},
		{[][]byte{small, small, small, great}, 3, api.ErrQuota},
		{[][]byte{blob("bb"), small, small, blob("ccc")}, 3, api.ErrQuota},
	} {
		s := made(t, 11)
		if n, e := s.PutAll(k.l); n != k.place || e != k.e {
			t.Error(k.place, k.e, n, e)
		}
		agree(t, s, &plain{quota: 11}, k.l...)
	}
}

// P8.1, P8.2, P8.4: all lists of up to five of six things, in stores of each small quota, put at once or one behind the other.
func TestAllShortLists(t *testing.T) {
	things := [][]byte{blob(""), blob("a"), blob("b"), {2, 0}, blob("ab"), {1, 1}}
	for quota := range 14 {
		for length := range 6 {
			count := 1
			for range length {
				count *= len(things)
			}
			if length == 5 && quota%3 != 0 {
				continue
			}
			for number := range count {
				var l [][]byte
				for n := number; len(l) < length; n /= len(things) {
					l = append(l, things[n%len(things)])
				}
				checkList(t, quota, l, things)
			}
		}
	}
}

func checkList(t *testing.T, quota int, l, things [][]byte) {
	t.Helper()
	s, p := made(t, quota), &plain{quota: quota}
	half := len(l) / 2
	for _, part := range [][][]byte{l[:half], l[half:]} {
		n, e := s.PutAll(part)
		if wanted, we := p.putAll(part); n != wanted || e != we {
			t.Fatal(quota, l, n, e, wanted, we)
		}
	}
	quick(t, s, p, things)
	s, p = made(t, quota), &plain{quota: quota}
	for _, b := range l {
		id, e := s.Put(b)
		we := p.put(b)
		wanted := idOf(b)
		if we != api.OK {
			wanted = api.ID{}
		}
		if id != wanted || e != we {
			t.Fatal(quota, l, b, id, e, we)
		}
	}
	quick(t, s, p, things)
}

// quick asks a store what tells it from all other ones of these things.
func quick(t *testing.T, s *store.Store, p *plain, things [][]byte) {
	t.Helper()
	if s.Len() != len(p.has) || s.Size() != p.size() || s.Left() != p.quota-p.size() {
		t.Fatal(s.Len(), s.Size(), s.Left(), p)
	}
	for _, b := range things {
		id := idOf(b)
		got, there := s.Get(id)
		if want := p.get(id); there != (want != nil) || !bytes.Equal(got, want) || there != (s.Kind(id) != 0) {
			t.Fatal(b, got, there, want)
		}
	}
}

// P8.2: ids with nothing, one and several: a set, each once.
func TestIDs(t *testing.T) {
	s := made(t, api.MaxQuota)
	if ids := s.IDs(); len(ids) != 0 {
		t.Error(ids)
	}
	for n := range 300 {
		b := blob(strings.Repeat("n", n%100) + string(rune('a'+n/100)))
		for range 2 {
			if _, e := s.Put(b); e != api.OK {
				t.Fatal(e)
			}
		}
		ids := s.IDs()
		if len(ids) != n+1 || !slices.Contains(ids, idOf(b)) {
			t.Fatal(n, len(ids))
		}
		for i := range len(ids) - 1 {
			if bytes.Compare(ids[i][:], ids[i+1][:]) >= 0 {
				t.Fatal(n, i)
			}
		}
	}
}

// P8.2: ids that are like one that is there, but for one bit, are not there.
func TestNearIDs(t *testing.T) {
	s := filled(t, 0, blob("ab"), []byte{2, 0})
	for _, b := range [][]byte{blob("ab"), {2, 0}} {
		for bit := range 256 {
			id := idOf(b)
			id[bit/8] ^= 1 << (bit % 8)
			agreeOn(t, s, id, nil)
		}
		agreeOn(t, s, idOf(b), b)
	}
}

// P8.2: a copy has the same, and the same quota; whichever of both is turned, the other one is as it was.
func TestCopy(t *testing.T) {
	has := [][]byte{blob("a"), {2, 0}, encoded(t, kinds()[4])}
	for count := range len(has) + 1 {
		first := filled(t, 7, has[:count]...)
		p := &plain{quota: first.Size() + 7, has: has[:count]}
		second := first.Copy()
		if second == first {
			t.Fatal("the same store")
		}
		agree(t, first, p)
		agree(t, second, p)
		turned := &plain{quota: p.quota, has: slices.Clone(p.has)}
		for _, s := range []*store.Store{first, second} {
			other := s.Copy()
			if _, e := other.Put(blob("12345")); e != api.OK {
				t.Error(e)
			}
			if n, e := other.PutAll([][]byte{blob("")}); n != 0 || e != api.ErrQuota {
				t.Error(n, e)
			}
			agree(t, s, p, blob("12345"))
		}
		if n, e := first.PutAll([][]byte{blob("x"), blob("yy")}); n != 2 || e != api.OK {
			t.Error(n, e)
		}
		turned.putAll([][]byte{blob("x"), blob("yy")})
		agree(t, first, turned)
		agree(t, second, p, blob("x"), blob("yy"))
	}
}

// P8.2: a copy of a copy, of a store of no quota and of the greatest one.
func TestCopyQuota(t *testing.T) {
	for _, quota := range []int{0, 1, api.MaxQuota} {
		s := made(t, quota).Copy().Copy()
		agree(t, s, &plain{quota: quota}, blob(""))
	}
}

// P8.3: what is handed in stays as it was, and is not kept.
func TestNotKept(t *testing.T) {
	for _, o := range kinds() {
		b := encoded(t, o)
		x, y := blob("x"), blob("yy")
		s, p := made(t, api.MaxQuota), &plain{quota: api.MaxQuota}
		p.putAll([][]byte{b, x, y})
		handed := append(bytes.Clone(b), 9, 9, 9)[:len(b)] // with capacity behind its end
		l := [][]byte{bytes.Clone(x), bytes.Clone(y), handed}
		if _, e := s.Put(handed); e != api.OK {
			t.Error(e)
		}
		if n, e := s.PutAll(l); n != 3 || e != api.OK {
			t.Error(n, e)
		}
		if !bytes.Equal(handed, b) || !bytes.Equal(handed[:len(b)+3], append(bytes.Clone(b), 9, 9, 9)) {
			t.Error("turned", handed)
		}
		if !bytes.Equal(l[0], x) || !bytes.Equal(l[1], y) || !bytes.Equal(l[2], b) {
			t.Error("turned", l)
		}
		for _, piece := range l {
			for i := range piece {
				piece[i] ^= 255
			}
		}
		l[0], l[1], l[2] = nil, nil, nil
		agree(t, s, p)
		agree(t, s.Copy(), p)
	}
}

// P8.3: of a list that cannot be put nothing is turned, either.
func TestOnlyRead(t *testing.T) {
	s := made(t, 4)
	l := [][]byte{blob("a"), blob("bb"), {1, 1}}
	if n, e := s.PutAll(l); n != 1 || e != api.ErrQuota {
		t.Error(n, e)
	}
	for i, want := range [][]byte{blob("a"), blob("bb"), {1, 1}} {
		if !bytes.Equal(l[i], want) {
			t.Error(i, l[i])
		}
	}
}

// P8.3: what is answered is new memory: turned, the store is as it was.
func TestNewMemory(t *testing.T) {
	var has [][]byte
	for _, o := range kinds() {
		has = append(has, encoded(t, o))
	}
	s := filled(t, 50, has...)
	p := &plain{quota: s.Size() + 50, has: has}
	ids := s.IDs()
	for _, id := range ids {
		b, _ := s.Get(id)
		o, _ := s.Object(id)
		for i := range b {
			b[i] ^= 255
		}
		spoil(&o)
		agree(t, s, p)
		if again, there := s.Object(id); !there || !object.Same(again, mustParse(t, p.get(id))) {
			t.Error(id, there)
		}
	}
	for i := range ids {
		ids[i] = api.ID{1}
	}
	agree(t, s, p)
}

// spoil turns all the memory that an object refers to.
func spoil(o *api.Object) {
	for i := range o.Data {
		o.Data[i] ^= 255
	}
	for i := range o.Entries {
		o.Entries[i] = api.Entry{}
	}
	for i := range o.Parents {
		o.Parents[i] = api.ID{}
	}
}

func mustParse(t testing.TB, b []byte) api.Object {
	t.Helper()
	o, e := object.Parse(b)
	if e != api.OK {
		t.Fatal(b, e)
	}
	return o
}

// P8.4: in whatever order objects are put that all have room, one by one or at once, the store is the same.
func TestOrder(t *testing.T) {
	things := [][]byte{blob(""), blob("a"), {2, 0}, encoded(t, kinds()[6]), encoded(t, kinds()[7])}
	p := &plain{quota: 1000}
	p.putAll(things)
	count := 0
	eachOrder(things, nil, func(l [][]byte) {
		count++
		one, all, parts := made(t, 1000), made(t, 1000), made(t, 1000)
		for _, b := range l {
			if id, e := one.Put(b); id != idOf(b) || e != api.OK {
				t.Fatal(id, e)
			}
		}
		all.PutAll(l)
		parts.PutAll(l[3:])
		parts.PutAll(l[:4])
		for _, s := range []*store.Store{one, all, parts, one.Copy()} {
			agree(t, s, p)
		}
	})
	if count != 120 {
		t.Error(count)
	}
}

// eachOrder does something with a list in each order.
func eachOrder(rest, ahead [][]byte, do func([][]byte)) {
	if len(rest) == 0 {
		do(ahead)
	}
	for i, b := range rest {
		eachOrder(slices.Delete(slices.Clone(rest), i, i+1), append(slices.Clip(ahead), b), do)
	}
}

// P8.1 to P8.4: stores of any quota, through puts, lists and copies, are as the chapter's words have them, and what was put is got for ever.
func TestRandom(t *testing.T) {
	r := rand.New(rand.NewSource(8))
	for range 60 {
		quota := r.Intn(400)
		s, p := made(t, quota), &plain{quota: quota}
		for range 40 {
			var l [][]byte
			for range r.Intn(5) {
				l = append(l, someBytes(r))
			}
			switch r.Intn(4) {
			case 0:
				s = s.Copy()
			case 1:
				n, e := s.PutAll(l)
				if wanted, we := p.putAll(l); n != wanted || e != we {
					t.Fatal(n, e, wanted, we)
				}
			default:
				b := someBytes(r)
				id, e := s.Put(b)
				if we := p.put(b); e != we || (e == api.OK) != (id == idOf(b)) || (e == api.OK) == (id == api.ID{}) {
					t.Fatal(b, id, e, we)
				}
			}
			agree(t, s, p, l...)
		}
	}
}

// someBytes are mostly an object's.
func someBytes(r *rand.Rand) []byte {
	switch r.Intn(8) {
	case 0:
		b := make([]byte, r.Intn(6))
		r.Read(b)
		return b
	case 1:
		return []byte{2, 0}
	case 2:
		o := api.Object{Kind: api.KindTag, Target: api.Link{Kind: 1 + r.Intn(4), ID: api.ID{byte(r.Intn(3))}}}
		b, _ := object.Encode(o)
		return b
	}
	return blob(strings.Repeat(string(rune('a'+r.Intn(3))), r.Intn(20)))
}

// P8.1, P8.2: many objects, until no more have room.
func TestMany(t *testing.T) {
	const count = 2000
	quota := count * len(blob("0000"))
	s := made(t, quota)
	var l [][]byte
	for n := range count {
		l = append(l, blob(string([]byte{byte(n), byte(n >> 8), 0, 0})))
	}
	if n, e := s.PutAll(l); n != count || e != api.OK {
		t.Fatal(n, e)
	}
	if id, e := s.Put(blob("")); id != (api.ID{}) || e != api.ErrQuota {
		t.Error(id, e)
	}
	if n, e := s.PutAll(append(slices.Clone(l), blob(""))); n != count || e != api.ErrQuota {
		t.Error(n, e)
	}
	if s.Len() != count || s.Size() != quota || s.Left() != 0 || len(s.IDs()) != count {
		t.Error(s.Len(), s.Size(), s.Left())
	}
	for _, b := range l {
		agreeOn(t, s, idOf(b), b)
	}
}

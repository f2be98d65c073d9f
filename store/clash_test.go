package store

import (
	"maps"
	"slices"
	"testing"

	"marshes/api"
	"marshes/hash"
)

// clashing is a store that has, under the id of some bytes, other ones: no two objects of one id are known, so that one is laid there.
func clashing(room int, b []byte) *Store {
	other := entry{kind: api.KindBlob, text: string([]byte{1, 1, 'o'})}
	return &Store{quota: 3 + room, size: 3, entries: map[api.ID]entry{hash.Of(b): other}}
}

func stands(t *testing.T, s, before *Store) {
	t.Helper()
	if s.quota != before.quota || s.size != before.size || !maps.Equal(s.entries, before.entries) {
		t.Error("turned", s, before)
	}
}

// P8.1: bytes whose id is there with other bytes clash, whether there is room or none.
func TestClash(t *testing.T) {
	b := []byte{1, 1, 'b'}
	for _, room := range []int{0, 2, 3, 100} {
		s := clashing(room, b)
		before := s.Copy()
		if id, e := s.Put(b); id != (api.ID{}) || e != api.ErrClash {
			t.Error(room, id, e)
		}
		stands(t, s, before)
		if id, e := s.Put([]byte{1, 1}); id != (api.ID{}) || e != api.ErrObject {
			t.Error(room, id, e)
		}
		stands(t, s, before)
	}
}

// P8.1: a list whose first, middle or last one clashes: its place, and none of the list is there.
func TestClashInList(t *testing.T) {
	b := []byte{1, 1, 'b'}
	good := [][]byte{{1, 0}, {2, 0}, {1, 1, 'a'}, {1, 0}}
	for place := range len(good) + 1 {
		s := clashing(100, b)
		before := s.Copy()
		l := append(slices.Insert(slices.Clone(good), place, b), []byte{1, 1})
		if n, e := s.PutAll(l); n != place || e != api.ErrClash {
			t.Error(place, n, e)
		}
		stands(t, s, before)
	}
}

// P8.1: so do bytes with those of one list that stand ahead of them.
func TestClashWithin(t *testing.T) {
	b := batch{into: &Store{quota: 100, entries: map[api.ID]entry{}}, entries: map[api.ID]entry{}}
	id, other := api.ID{1}, api.ID{2}
	for _, k := range []struct {
		id     api.ID
		wanted entry
		e      api.Errno
		size   int
	}{
		{id, entry{api.KindBlob, "ab"}, api.OK, 2},
		{id, entry{api.KindBlob, "ac"}, api.ErrClash, 2},
		{id, entry{api.KindBlob, "ab"}, api.OK, 2},
		{id, entry{api.KindBlob, string(make([]byte, 101))}, api.ErrClash, 2},
		{id, entry{}, api.ErrObject, 2},
		{other, entry{api.KindBlob, "ac"}, api.OK, 4},
	} {
		if e := b.take(k.id, k.wanted); e != k.e || b.size != k.size {
			t.Error(k, e, b.size)
		}
	}
	if b.into.Len() != 0 || b.into.Size() != 0 {
		t.Error(b.into)
	}
}

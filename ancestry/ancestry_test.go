package ancestry_test

import (
	"bytes"
	"crypto/sha256"
	"math"
	"math/rand"
	"slices"
	"strconv"
	"testing"

	"marshes/ancestry"
	"marshes/api"
	"marshes/object"
	"marshes/store"
)

// A part is an object as a test made it: its bytes, its id, and the parents that stand in it, told without asking the program.
type part struct {
	kind    int
	raw     []byte
	id      api.ID
	parents []api.ID
}

func partOf(t testing.TB, o api.Object) part {
	t.Helper()
	b, e := object.Encode(o)
	if e != api.OK {
		t.Fatal(o, e)
	}
	return part{o.Kind, b, sha256.Sum256(b), slices.Clone(o.Parents)}
}

// commit is one with these parents; its tree is not there, which is nobody's concern here.
func commit(t testing.TB, message string, parents ...api.ID) part {
	t.Helper()
	return partOf(t, api.Object{Kind: api.KindCommit, Parents: parents, Message: message})
}

func blob(t testing.TB, data string) part {
	t.Helper()
	return partOf(t, api.Object{Kind: api.KindBlob, Data: []byte(data)})
}

// tree is one whose entries bear these ids.
func tree(t testing.TB, of ...api.ID) part {
	t.Helper()
	o := api.Object{Kind: api.KindTree}
	for n, id := range of {
		o.Entries = append(o.Entries, api.Entry{Name: string(rune('a' + n)), Kind: 1 + n%2, ID: id})
	}
	return partOf(t, o)
}

// tag is one that says that its target is a commit.
func tag(t testing.TB, message string, target api.ID) part {
	t.Helper()
	return partOf(t, api.Object{Kind: api.KindTag, Target: api.Link{Kind: api.KindCommit, ID: target}, Message: message})
}

// stored is a store that has these parts.
func stored(t testing.TB, parts ...part) *store.Store {
	t.Helper()
	s, e := store.New(api.MaxQuota)
	if e != api.OK {
		t.Fatal(e)
	}
	put(t, s, parts...)
	return s
}

func put(t testing.TB, s *store.Store, parts ...part) {
	t.Helper()
	for _, p := range parts {
		if id, e := s.Put(p.raw); id != p.id || e != api.OK {
			t.Fatal(p, id, e)
		}
	}
}

// holds says whether a store has just these parts.
func holds(t testing.TB, s *store.Store, parts ...part) {
	t.Helper()
	size := 0
	for _, p := range parts {
		if b, there := s.Get(p.id); !there || !bytes.Equal(b, p.raw) {
			t.Fatal("the store was turned", p, b, there)
		}
		size += len(p.raw)
	}
	if s.Len() != len(parts) || s.Size() != size || s.Left() != api.MaxQuota-size {
		t.Fatal("the store was turned", s.Len(), len(parts), s.Size(), size)
	}
}

// set is a set of ids.
func set(l ...api.ID) []api.ID {
	l = slices.Clone(l)
	slices.SortFunc(l, func(a, b api.ID) int { return bytes.Compare(a[:], b[:]) })
	return slices.Compact(l)
}

// ids are those of parts, in order.
func ids(parts ...part) []api.ID {
	var l []api.ID
	for _, p := range parts {
		l = append(l, p.id)
	}
	return l
}

// A model is what the chapter's words say of some parts that are there, worked out without the program.
type model struct {
	parents   map[api.ID][]api.ID
	ancestors map[api.ID]map[api.ID]bool
	depths    map[api.ID]int
}

// byWords goes over the parts again and again, until no more comes of the words.
func byWords(parts []part) model {
	m := model{map[api.ID][]api.ID{}, map[api.ID]map[api.ID]bool{}, map[api.ID]int{}}
	for _, p := range parts {
		if p.kind == api.KindCommit {
			m.parents[p.id], m.ancestors[p.id], m.depths[p.id] = nil, map[api.ID]bool{}, 1
		}
	}
	for _, p := range parts {
		for _, parent := range p.parents {
			if m.depths[parent] > 0 {
				m.parents[p.id] = append(m.parents[p.id], parent)
			}
		}
	}
	for turned := true; turned; {
		turned = false
		for id := range m.parents {
			turned = m.step(id) || turned
		}
	}
	return m
}

// step says of a commit what its parents make of it, and whether that is more than was known.
func (m model) step(id api.ID) bool {
	before, depth := len(m.ancestors[id]), m.depths[id]
	for _, parent := range m.parents[id] {
		m.ancestors[id][parent] = true
		for other := range m.ancestors[parent] {
			m.ancestors[id][other] = true
		}
		m.depths[id] = max(m.depths[id], 1+m.depths[parent])
	}
	return len(m.ancestors[id]) != before || m.depths[id] != depth
}

func (m model) heads(l []api.ID) []api.ID {
	var heads []api.ID
	for _, id := range l {
		if !slices.ContainsFunc(l, func(other api.ID) bool { return other != id && m.ancestors[other][id] }) {
			heads = append(heads, id)
		}
	}
	return set(heads...)
}

func (m model) history(id api.ID) []api.ID {
	if m.depths[id] == 0 {
		return nil
	}
	history := []api.ID{id}
	for other := range m.ancestors[id] {
		history = append(history, other)
	}
	slices.SortFunc(history, func(a, b api.ID) int {
		if m.depths[a] != m.depths[b] {
			return m.depths[b] - m.depths[a]
		}
		return bytes.Compare(a[:], b[:])
	})
	return history
}

func (m model) bases(a, b api.ID) []api.ID {
	var common []api.ID
	other := m.history(b)
	for _, id := range m.history(a) {
		if slices.Contains(other, id) {
			common = append(common, id)
		}
	}
	return m.heads(common)
}

func checkAncestor(t testing.TB, s *store.Store, want bool, a, b api.ID) {
	t.Helper()
	if is := ancestry.Ancestor(s, a, b); is != want {
		t.Fatal("Ancestor", a, b, is)
	}
}

func checkDepth(t testing.TB, s *store.Store, want int, id api.ID) {
	t.Helper()
	if n := ancestry.Depth(s, id); n != want {
		t.Fatal("Depth", id, n, want)
	}
}

func checkHeads(t testing.TB, s *store.Store, want []api.ID, of ...api.ID) {
	t.Helper()
	if l := ancestry.Heads(s, of...); !slices.Equal(l, want) {
		t.Fatal("Heads", of, "\n", l, "\n", want)
	}
}

// checkHistory asks for all of a history, for none of it, and for parts of it.
func checkHistory(t testing.TB, s *store.Store, want []api.ID, id api.ID) {
	t.Helper()
	for _, most := range []int{math.MinInt, -2, -1, 0, 1, 2, len(want) / 2, len(want) - 1, len(want), len(want) + 1, math.MaxInt} {
		first := want[:max(0, min(most, len(want)))]
		if l := ancestry.History(s, id, most); !slices.Equal(l, first) {
			t.Fatal("History", id, most, "\n", l, "\n", first)
		}
	}
}

// checkBases asks in both orders.
func checkBases(t testing.TB, s *store.Store, want []api.ID, a, b api.ID) {
	t.Helper()
	for range 2 {
		if l := ancestry.Bases(s, a, b); !slices.Equal(l, want) {
			t.Fatal("Bases", a, b, "\n", l, "\n", want)
		}
		a, b = b, a
	}
}

// checkWords asks all that can be asked of these ids, and says whether it is what the words say.
func checkWords(t testing.TB, s *store.Store, m model, asked ...api.ID) {
	t.Helper()
	checkHeads(t, s, m.heads(asked), asked...)
	for n, a := range asked {
		checkDepth(t, s, m.depths[a], a)
		checkHistory(t, s, m.history(a), a)
		checkHeads(t, s, m.heads(asked[n:]), asked[n:]...)
		for _, b := range asked {
			checkAncestor(t, s, m.ancestors[b][a], a, b)
			checkBases(t, s, m.bases(a, b), a, b)
			checkHeads(t, s, m.heads([]api.ID{a, b}), a, b)
		}
	}
}

// checkNoCommit says whether an id is answered as none that is a commit, beside others that may be commits.
func checkNoCommit(t testing.TB, s *store.Store, id api.ID, others ...api.ID) {
	t.Helper()
	checkDepth(t, s, 0, id)
	checkHistory(t, s, nil, id)
	checkHeads(t, s, []api.ID{id}, id)
	checkHeads(t, s, []api.ID{id}, id, id)
	checkAncestor(t, s, false, id, id)
	checkBases(t, s, nil, id, id)
	for _, other := range others {
		checkAncestor(t, s, false, id, other)
		checkAncestor(t, s, false, other, id)
		checkBases(t, s, nil, id, other)
		checkHeads(t, s, set(id, other), id, other)
		checkHeads(t, s, set(id, other), other, id, other)
	}
}

// four are the chapter's commits: r; a and b, whose parent is r; m, whose parents are a and b.
func four(t testing.TB) (r, a, b, m part) {
	t.Helper()
	r = commit(t, "r")
	a, b = commit(t, "a", r.id), commit(t, "b", r.id)
	return r, a, b, commit(t, "m", a.id, b.id)
}

// row is so many commits, each one's parent the one ahead of it.
func row(t testing.TB, name string, count int) []part {
	t.Helper()
	parts := []part{commit(t, name)}
	for len(parts) < count {
		parts = append(parts, commit(t, name, parts[len(parts)-1].id))
	}
	return parts
}

// orders are all orders of a list.
func orders[T any](l []T) [][]T {
	if len(l) == 0 {
		return [][]T{nil}
	}
	var all [][]T
	for n := range l {
		for _, rest := range orders(slices.Delete(slices.Clone(l), n, n+1)) {
			all = append(all, append([]T{l[n]}, rest...))
		}
	}
	return all
}

// P10.1, P10.2: the chapter's examples.
func TestExamples(t *testing.T) {
	r, a, b, m := four(t)
	for _, parts := range orders([]part{r, a, b, m}) {
		s := stored(t, parts...)
		checkAncestor(t, s, true, r.id, m.id)
		checkAncestor(t, s, false, a.id, b.id)
		checkAncestor(t, s, false, m.id, m.id)
		checkDepth(t, s, 3, m.id)
		checkHeads(t, s, set(a.id, b.id), r.id, a.id, b.id)
		checkHistory(t, s, slices.Concat([]api.ID{m.id}, set(a.id, b.id), []api.ID{r.id}), m.id)
		checkBases(t, s, []api.ID{r.id}, a.id, b.id)
		checkBases(t, s, []api.ID{a.id}, a.id, m.id)
		checkWords(t, s, byWords(parts), r.id, a.id, b.id, m.id, api.ID{})
	}
}

// P10.1, P10.2: where nothing is there, nothing is a commit, and each id is a head.
func TestNoStore(t *testing.T) {
	r, a, b, m := four(t)
	small, e := store.New(0)
	if e != api.OK {
		t.Fatal(e)
	}
	var unmade store.Store
	if id, e := unmade.Put(r.raw); id != (api.ID{}) || e != api.ErrNil {
		t.Fatal(id, e)
	}
	for _, s := range []*store.Store{nil, {}, new(store.Store), &unmade, unmade.Copy(), small, small.Copy(), stored(t)} {
		checkHeads(t, s, nil)
		all := []api.ID{m.id, r.id, b.id, {}, a.id, {1}}
		for _, id := range all {
			checkNoCommit(t, s, id, all...)
		}
		checkHeads(t, s, set(all...), all...)
		checkHeads(t, s, set(all...), slices.Concat(all, all)...)
		checkWords(t, s, byWords(nil), all...)
		if s.Len() != 0 || s.Size() != 0 {
			t.Error(s)
		}
	}
}

// others are a blob, trees and tags that speak of a commit, or of nothing.
func others(t testing.TB, of api.ID) []part {
	t.Helper()
	first := tag(t, "one", of)
	return []part{blob(t, ""), blob(t, string(of[:])), tree(t), tree(t, of, of), first, tag(t, "two", first.id), tag(t, "lost", api.ID{1})}
}

// P10.1, P10.2: ids that are not there, and those of blobs, trees and tags, are no commits, whatever is asked.
func TestNoCommits(t *testing.T) {
	r, a, b, m := four(t)
	commits := []part{r, a, b, m}
	parts := slices.Concat(commits, others(t, a.id))
	s := stored(t, parts...)
	lost := []api.ID{{}, {1}, {255}, commit(t, "lost", m.id).id, commit(t, "lost too").id}
	asked := slices.Concat(ids(parts[4:]...), lost)
	for _, id := range asked {
		checkNoCommit(t, s, id, slices.Concat(ids(commits...), asked)...)
	}
	checkHeads(t, s, set(asked...), asked...)
	checkHeads(t, s, set(append(asked, m.id)...), append(slices.Clone(asked), ids(commits...)...)...)
	checkWords(t, s, byWords(parts), slices.Concat(ids(parts...), lost)...)
	holds(t, s, parts...)
}

// P10.1, P10.2: ids that are like a commit's, but for one bit, are none.
func TestNearIDs(t *testing.T) {
	r, a, b, m := four(t)
	s := stored(t, r, a, b, m)
	for bit := range 256 {
		for _, id := range ids(r, m) {
			id[bit/8] ^= 1 << (bit % 8)
			checkNoCommit(t, s, id, r.id, m.id)
		}
	}
}

// P10.1, P10.2: commits with any number of parents, in all orders, and each of them asked.
func TestParents(t *testing.T) {
	rows := [][]part{row(t, "one", 1), row(t, "two", 2), row(t, "three", 3), row(t, "four", 4)}
	for count := range len(rows) + 1 {
		for _, some := range orders(rows[:count]) {
			var parts []part
			var parents []api.ID
			for _, one := range some {
				parts = append(parts, one...)
				parents = append(parents, one[len(one)-1].id)
			}
			c := commit(t, "c", parents...)
			parts = append(parts, c)
			s := stored(t, parts...)
			checkDepth(t, s, 1+count, c.id)
			for _, p := range parts[:len(parts)-1] {
				checkAncestor(t, s, true, p.id, c.id)
				checkAncestor(t, s, false, c.id, p.id)
				checkBases(t, s, []api.ID{p.id}, p.id, c.id)
			}
			checkHeads(t, s, []api.ID{c.id}, ids(parts...)...)
			checkHeads(t, s, set(parents...), parents...)
			checkWords(t, s, byWords(parts), ids(parts...)...)
		}
	}
}

// P10.1, P10.2: of a commit's parents those that are not there are none of its; nor are their parents its ancestors, though they are there.
func TestLostParents(t *testing.T) {
	r, a, b, m := four(t)
	top := commit(t, "top", m.id, api.ID{}, api.ID{7})
	parts := []part{r, a, b, m, top}
	for there := range 1 << len(parts) {
		var has []part
		for n, p := range parts {
			if there>>n&1 == 1 {
				has = append(has, p)
			}
		}
		s := stored(t, has...)
		checkWords(t, s, byWords(has), append(ids(parts...), api.ID{}, api.ID{7})...)
	}
	s := stored(t, r, a, m, top)
	checkDepth(t, s, 4, top.id)
	checkHistory(t, s, []api.ID{top.id, m.id, a.id, r.id}, top.id)
	checkNoCommit(t, s, b.id, r.id, a.id, m.id, top.id)
	s = stored(t, r, a, b, top)
	checkDepth(t, s, 1, top.id)
	checkHistory(t, s, []api.ID{top.id}, top.id)
	checkAncestor(t, s, false, r.id, top.id)
	checkHeads(t, s, set(a.id, b.id, top.id), r.id, a.id, b.id, top.id)
	checkBases(t, s, nil, a.id, top.id)
}

// P10.1, P10.2: of a commit's parents those that are there, and no commits, are none of its; nor is what they speak of, nor its tree.
func TestOtherParents(t *testing.T) {
	r := commit(t, "r")
	a := commit(t, "a", r.id)
	for _, other := range others(t, a.id) {
		for _, parents := range [][]api.ID{{other.id}, {other.id, r.id}, {r.id, other.id}, {api.ID{}, other.id, r.id}} {
			c := commit(t, "c", parents...)
			d := commit(t, "d", c.id, other.id)
			parts := []part{r, a, other, c, d}
			s := stored(t, parts...)
			depth, history := 1, []api.ID{c.id}
			if len(parents) > 1 {
				depth, history = 2, []api.ID{c.id, r.id}
			}
			checkDepth(t, s, depth, c.id)
			checkHistory(t, s, history, c.id)
			checkDepth(t, s, 1+depth, d.id)
			checkHistory(t, s, append([]api.ID{d.id}, history...), d.id)
			checkNoCommit(t, s, other.id, r.id, a.id, c.id, d.id)
			checkAncestor(t, s, false, a.id, c.id)
			checkHeads(t, s, set(a.id, d.id, other.id), d.id, other.id, a.id, c.id, r.id)
			checkWords(t, s, byWords(parts), ids(parts...)...)
		}
	}
	odd := partOf(t, api.Object{Kind: api.KindCommit, Tree: a.id, Message: "a commit as its tree"})
	s := stored(t, r, a, odd)
	checkDepth(t, s, 1, odd.id)
	checkHistory(t, s, []api.ID{odd.id}, odd.id)
	checkAncestor(t, s, false, a.id, odd.id)
	checkBases(t, s, nil, a.id, odd.id)
	checkHeads(t, s, set(a.id, odd.id), r.id, a.id, odd.id)
}

// P10.1: a commit and itself, its parents, theirs, the other way round, and what has nothing in common with it.
func TestAncestor(t *testing.T) {
	one, other := row(t, "one", 9), row(t, "other", 9)
	s := stored(t, slices.Concat(one, other)...)
	for i, a := range one {
		for j, b := range one {
			checkAncestor(t, s, i < j, a.id, b.id)
			checkAncestor(t, s, false, a.id, other[j].id)
			checkAncestor(t, s, false, other[j].id, a.id)
		}
	}
	both := commit(t, "both", other[3].id, one[5].id)
	put(t, s, both)
	for n := range one {
		checkAncestor(t, s, n <= 5, one[n].id, both.id)
		checkAncestor(t, s, n <= 3, other[n].id, both.id)
		checkAncestor(t, s, false, both.id, one[n].id)
		checkAncestor(t, s, false, both.id, other[n].id)
	}
}

// P10.1: where ways of unlike lengths lead to a commit, the greatest depth of its parents counts, wherever it stands among them.
func TestDepth(t *testing.T) {
	long := row(t, "long", 6)
	short := commit(t, "short", long[0].id)
	alone := commit(t, "alone")
	for _, some := range orders([]api.ID{long[5].id, short.id, alone.id, long[0].id}) {
		for count := range len(some) + 1 {
			top := commit(t, "top", some[:count]...)
			above := commit(t, "above", alone.id, top.id)
			parts := slices.Concat(long, []part{short, alone, top, above})
			s := stored(t, parts...)
			depth := 1
			for _, id := range some[:count] {
				depth = max(depth, 1+map[api.ID]int{long[5].id: 6, short.id: 2, alone.id: 1, long[0].id: 1}[id])
			}
			checkDepth(t, s, depth, top.id)
			checkDepth(t, s, depth+1, above.id)
			m := byWords(parts)
			for _, p := range parts {
				checkDepth(t, s, m.depths[p.id], p.id)
				checkHistory(t, s, m.history(p.id), p.id)
			}
		}
	}
	s := stored(t, long...)
	for n, p := range long {
		checkDepth(t, s, n+1, p.id)
	}
}

// P10.1: the heads of nothing, of one, of the same one several times.
func TestFewHeads(t *testing.T) {
	r, a, b, m := four(t)
	bl, absent := blob(t, "b"), api.ID{9}
	s := stored(t, r, a, b, m, bl)
	checkHeads(t, s, nil)
	checkHeads(t, s, nil, []api.ID{}...)
	for _, id := range append(ids(r, a, b, m, bl), absent, api.ID{}) {
		for count := 1; count < 5; count++ {
			checkHeads(t, s, []api.ID{id}, slices.Repeat([]api.ID{id}, count)...)
		}
	}
}

// P10.1: the heads of some of which one is an ancestor of another one, one or several steps away, and of some that are no commits, in any order.
func TestHeads(t *testing.T) {
	one, other := row(t, "one", 8), row(t, "other", 3)
	fork := commit(t, "fork", one[4].id)
	bl, absent := blob(t, "b"), api.ID{9}
	s := stored(t, slices.Concat(one, other, []part{fork, bl})...)
	for _, k := range []struct{ of, want []api.ID }{
		{ids(one[0], one[1]), ids(one[1])},
		{ids(one[0], one[7]), ids(one[7])},
		{ids(one[1], one[3], one[7]), ids(one[7])},
		{ids(one[2], one[2], one[5], one[5]), ids(one[5])},
		{ids(one[0], other[0]), ids(one[0], other[0])},
		{ids(one[7], other[0], other[2]), ids(one[7], other[2])},
		{ids(fork, one[7], one[4]), ids(fork, one[7])},
		{ids(fork, one[5], one[6]), ids(fork, one[6])},
		{ids(fork, one[5], one[0], other[2]), ids(fork, one[5], other[2])},
		{ids(bl, one[7], one[0]), ids(bl, one[7])},
		{append(ids(bl, one[6], one[1]), absent), append(ids(bl, one[6]), absent)},
		{append(ids(bl, bl, one[6]), absent, absent), append(ids(bl, one[6]), absent)},
	} {
		for _, of := range orders(k.of) {
			checkHeads(t, s, set(k.want...), of...)
		}
	}
	checkHeads(t, s, set(one[7].id, fork.id, other[2].id, bl.id), ids(slices.Concat(one, other, []part{fork, bl})...)...)
}

// P10.1: many heads side by side come as a set, however many are handed in.
func TestManyHeads(t *testing.T) {
	r := rand.New(rand.NewSource(101))
	root := commit(t, "root")
	parts := []part{root}
	for n := range 300 {
		parts = append(parts, commit(t, strconv.Itoa(n), root.id))
	}
	s := stored(t, parts...)
	of := slices.Concat(ids(parts...), ids(parts[:100]...))
	for range 5 {
		r.Shuffle(len(of), func(i, j int) { of[i], of[j] = of[j], of[i] })
		checkHeads(t, s, set(ids(parts[1:]...)...), of...)
	}
}

// P10.2: at most so many of a history, from its beginning on; none, if that is below 1.
func TestHistoryMost(t *testing.T) {
	parts := row(t, "one", 7)
	s := stored(t, parts...)
	all := ids(parts...)
	slices.Reverse(all)
	for most := -3; most < 12; most++ {
		for n := range all {
			want := all[n:]
			want = want[:max(0, min(most, len(want)))]
			if l := ancestry.History(s, all[n], most); !slices.Equal(l, want) {
				t.Error(most, n, l)
			}
		}
	}
	for _, most := range []int{math.MinInt, math.MinInt32, -1 << 31, 0} {
		if l := ancestry.History(s, all[0], most); len(l) != 0 {
			t.Error(most, l)
		}
	}
	for _, most := range []int{1 << 31, 1 << 32, 1<<32 + 1, math.MaxInt} {
		if l := ancestry.History(s, all[0], most); !slices.Equal(l, all) {
			t.Error(most, l)
		}
	}
}

// P10.2: a history goes by falling depths, though a way of one step leads to the last one, and each commit comes once.
func TestHistoryDepths(t *testing.T) {
	parts := row(t, "one", 5)
	short := commit(t, "short", parts[0].id)
	for _, parents := range orders(ids(parts[0], parts[4], short, parts[2])) {
		top := commit(t, "top", parents...)
		s := stored(t, slices.Concat(parts, []part{short, top})...)
		want := slices.Concat(ids(top, parts[4], parts[3], parts[2]), set(parts[1].id, short.id), ids(parts[0]))
		checkHistory(t, s, want, top.id)
	}
}

// wide are commits side by side, row over row: the first row has no parents, each other commit some of the row ahead; the last one has them all behind it.
func wide(t testing.TB, r *rand.Rand, breadth, rows int) []part {
	t.Helper()
	var parts, last []part
	for n := range rows {
		var now []part
		for m := range breadth {
			var parents []api.ID
			for _, p := range last[min(len(last), m):min(len(last), m+1)] {
				parents = append(parents, p.id)
			}
			for range r.Intn(4) {
				if len(last) > 0 {
					parents = append(parents, last[r.Intn(len(last))].id)
				}
			}
			now = append(now, commit(t, strconv.Itoa(n)+" "+strconv.Itoa(m), set(parents...)...))
		}
		parts, last = append(parts, now...), now
	}
	for len(last) > 1 {
		top := commit(t, "over", ids(last[:min(4, len(last))]...)...)
		parts, last = append(parts, top), append(last[min(4, len(last)):], top)
	}
	return parts
}

// P10.2: commits of the same depth come by their ids, many of them, and to each of them several ways lead.
func TestHistoryOrder(t *testing.T) {
	r := rand.New(rand.NewSource(102))
	for _, breadth := range []int{2, 5, 16, 64} {
		parts := wide(t, r, breadth, 5)
		r.Shuffle(len(parts)-1, func(i, j int) { parts[i], parts[j] = parts[j], parts[i] })
		s, m := stored(t, parts...), byWords(parts)
		top := parts[len(parts)-1].id
		if len(m.ancestors[top]) != len(parts)-1 {
			t.Fatal(len(m.ancestors[top]), len(parts))
		}
		checkHistory(t, s, m.history(top), top)
		for range 9 {
			id := parts[r.Intn(len(parts))].id
			checkHistory(t, s, m.history(id), id)
		}
	}
}

// P10.2: the bases of a commit and itself, of one and its ancestor, of two without common ones, with one, with several.
func TestBases(t *testing.T) {
	one, other := row(t, "one", 6), row(t, "other", 4)
	left, right := commit(t, "left", one[3].id), commit(t, "right", one[3].id)
	cross, crossed := commit(t, "cross", left.id, right.id), commit(t, "other way", right.id, left.id)
	twice := commit(t, "twice", cross.id, other[3].id)
	again := commit(t, "again", crossed.id, other[1].id, one[0].id)
	parts := slices.Concat(one, other, []part{left, right, cross, crossed, twice, again})
	s := stored(t, parts...)
	for n, p := range one {
		checkBases(t, s, ids(p), p.id, p.id)
		for m := range n {
			checkBases(t, s, ids(one[m]), p.id, one[m].id)
		}
		checkBases(t, s, nil, p.id, other[n%4].id)
	}
	checkBases(t, s, ids(one[3]), left.id, right.id)
	checkBases(t, s, ids(one[3]), left.id, one[5].id)
	checkBases(t, s, set(ids(left, right)...), cross.id, crossed.id)
	checkBases(t, s, ids(left), cross.id, left.id)
	checkBases(t, s, set(ids(left, right, other[1])...), twice.id, again.id)
	checkBases(t, s, ids(other[2]), twice.id, other[2].id)
	checkBases(t, s, ids(one[3]), twice.id, one[4].id)
	checkBases(t, s, nil, cross.id, other[3].id)
	checkWords(t, s, byWords(parts), ids(parts...)...)
}

// P10.2: where common ones are ancestors of one another, the last of them alone are bases, though ways of one step lead to the others.
func TestBasesInARow(t *testing.T) {
	parts := row(t, "one", 5)
	for there := range 1 << 3 {
		var also []api.ID
		for n := range 3 {
			if there>>n&1 == 1 {
				also = append(also, parts[n].id)
			}
		}
		a, b := commit(t, "a", append(slices.Clone(also), parts[4].id)...), commit(t, "b", append([]api.ID{parts[3].id}, also...)...)
		s := stored(t, append(slices.Clone(parts), a, b)...)
		checkBases(t, s, ids(parts[3]), a.id, b.id)
		c := commit(t, "c", a.id)
		put(t, s, c)
		checkBases(t, s, ids(parts[3]), c.id, b.id)
	}
}

// mixed is a world in which each call has something to answer, and ids to ask it of.
func mixed(t testing.TB) ([]part, []api.ID) {
	t.Helper()
	r, a, b, m := four(t)
	n := commit(t, "n", b.id, a.id, api.ID{5})
	parts := append(others(t, a.id), r, a, b, m, n)
	return parts, append(ids(n, r, a, b, m, m, parts[0], parts[4]), api.ID{5})
}

// P10.3: the store and the ids are only read, what is behind the ids' end too.
func TestOnlyRead(t *testing.T) {
	parts, asked := mixed(t)
	s, m := stored(t, parts...), byWords(parts)
	whole := append(slices.Clone(asked), api.ID{7}, api.ID{8}, asked[0])
	before := slices.Clone(whole)
	for count := range len(asked) + 1 {
		checkWords(t, s, m, whole[:count]...)
		if !slices.Equal(whole, before) {
			t.Fatal("the ids were turned", whole)
		}
		holds(t, s, parts...)
	}
}

// spoil turns all the memory of a list.
func spoil(l []api.ID) {
	l = l[:cap(l)]
	for n := range l {
		l[n] = api.ID{255, byte(n)}
	}
}

// P10.3: what is answered is new memory: turned, the store, the ids and other answers are as they were; and so are answers, once the ids are turned.
func TestNewMemory(t *testing.T) {
	parts, asked := mixed(t)
	s, m := stored(t, parts...), byWords(parts)
	n, top := asked[0], asked[4]
	for range 2 {
		for count := range len(asked) + 1 {
			handed := slices.Clone(asked[:count])
			heads, history, bases := ancestry.Heads(s, handed...), ancestry.History(s, n, 9), ancestry.Bases(s, n, top)
			spoil(handed)
			for _, k := range []struct{ got, want []api.ID }{{heads, m.heads(asked[:count])}, {history, m.history(n)}, {bases, m.bases(n, top)}} {
				if !slices.Equal(k.got, k.want) {
					t.Fatal("shared", k.got, k.want)
				}
				spoil(k.got)
			}
			handed = slices.Clone(asked[:count])
			spoil(ancestry.Heads(s, handed...))
			if !slices.Equal(handed, asked[:count]) {
				t.Fatal("the ids were turned", handed)
			}
		}
		holds(t, s, parts...)
		checkWords(t, s, m, asked...)
	}
}

// P10.1, P10.2: all is of the store that is handed in, as it is then: what is put later counts from then on, and there alone.
func TestOfAStore(t *testing.T) {
	r := rand.New(rand.NewSource(103))
	parts, asked := mixed(t)
	for range 20 {
		r.Shuffle(len(parts), func(i, j int) { parts[i], parts[j] = parts[j], parts[i] })
		s := stored(t)
		for n, p := range parts {
			before := s.Copy()
			put(t, s, p)
			checkWords(t, s, byWords(parts[:n+1]), asked...)
			checkWords(t, before, byWords(parts[:n]), asked...)
			holds(t, s, parts[:n+1]...)
			holds(t, before, parts[:n]...)
		}
	}
}

// P10.1, P10.2: very many commits, one behind the other.
func TestDeep(t *testing.T) {
	parts := row(t, "one", 1<<15)
	s := stored(t, parts...)
	first, middle, last := parts[0].id, parts[len(parts)/2].id, parts[len(parts)-1].id
	checkDepth(t, s, len(parts), last)
	checkDepth(t, s, 1+len(parts)/2, middle)
	checkAncestor(t, s, true, first, last)
	checkAncestor(t, s, true, middle, last)
	checkAncestor(t, s, false, last, first)
	checkHeads(t, s, []api.ID{last}, first, last, middle)
	checkBases(t, s, []api.ID{middle}, middle, last)
	all := ids(parts...)
	slices.Reverse(all)
	if l := ancestry.History(s, last, math.MaxInt); !slices.Equal(l, all) {
		t.Error(len(l))
	}
	other := row(t, "other", 9)
	put(t, s, other...)
	checkBases(t, s, nil, last, other[8].id)
	checkHeads(t, s, set(last, other[8].id), first, other[8].id, last, other[0].id)
}

// P10.1, P10.2: each commit is gone through once: by any other way this one would not end, as 4 to the 200 ways lead down.
func TestManyWays(t *testing.T) {
	const rows = 200
	var parts []part
	var last []api.ID
	for n := range rows {
		var now []part
		for m := range 4 {
			now = append(now, commit(t, strconv.Itoa(n)+" "+strconv.Itoa(m), last...))
		}
		parts, last = append(parts, now...), ids(now...)
	}
	a, b := commit(t, "a", last...), commit(t, "b", last...)
	s := stored(t, append(slices.Clone(parts), a, b)...)
	checkDepth(t, s, rows+1, a.id)
	checkAncestor(t, s, true, parts[0].id, a.id)
	checkAncestor(t, s, false, b.id, a.id)
	checkAncestor(t, s, false, a.id, parts[0].id)
	checkBases(t, s, set(last...), a.id, b.id)
	checkBases(t, s, ids(parts[2]), a.id, parts[2].id)
	checkHeads(t, s, set(a.id, b.id), append(ids(parts...), b.id, a.id)...)
	checkHeads(t, s, set(last...), ids(parts...)...)
	want := []api.ID{a.id}
	for n := rows; n > 0; n-- {
		want = append(want, set(ids(parts[4*n-4:4*n]...)...)...)
	}
	checkHistory(t, s, want, a.id)
}

// P10.1, P10.2: many ways side by side, that come together at both ends.
func TestSideBySide(t *testing.T) {
	root := commit(t, "root")
	parts, tips := []part{root}, []part{}
	for n := range 200 {
		tip := root
		for m := range 1 + n%7 {
			tip = commit(t, strconv.Itoa(n)+" "+strconv.Itoa(m), tip.id)
			parts = append(parts, tip)
		}
		tips = append(tips, tip)
	}
	s, m := stored(t, parts...), byWords(parts)
	checkHeads(t, s, set(ids(tips...)...), ids(parts...)...)
	for n, tip := range tips {
		checkDepth(t, s, 2+n%7, tip.id)
		checkBases(t, s, ids(root), tip.id, tips[(n+1)%len(tips)].id)
		checkHistory(t, s, m.history(tip.id), tip.id)
	}
}

// small is a world of eleven objects, commits mostly; some have parents that are none.
func small(t testing.TB) []part {
	t.Helper()
	b := blob(t, "b")
	r, q := commit(t, "r"), commit(t, "q", b.id)
	x, y := commit(t, "x", r.id, q.id), commit(t, "y", q.id, r.id, api.ID{3})
	of := tag(t, "x", x.id)
	m, n := commit(t, "m", x.id, y.id), commit(t, "n", y.id, x.id, of.id)
	long := commit(t, "long", m.id)
	odd := commit(t, "odd", r.id, of.id, long.id)
	return []part{b, r, q, x, y, of, m, n, long, odd, commit(t, "top", n.id, odd.id, r.id)}
}

// P10.1, P10.2: all stores with some of the eleven objects.
func TestAllParts(t *testing.T) {
	parts := small(t)
	for there := range 1 << len(parts) {
		var has []part
		for n, p := range parts {
			if there>>n&1 == 1 {
				has = append(has, p)
			}
		}
		s, m := stored(t, has...), byWords(has)
		var asked []api.ID
		for n := range 4 {
			asked = append(asked, parts[(there+n*there/16+3*n)%len(parts)].id)
		}
		checkWords(t, s, m, asked...)
		checkHeads(t, s, m.heads(ids(parts...)), ids(parts...)...)
		checkHistory(t, s, m.history(parts[10].id), parts[10].id)
	}
}

// P10.1: the heads of all lists of the eleven objects, where all are there.
func TestAllHeads(t *testing.T) {
	parts := small(t)
	s, m := stored(t, parts...), byWords(parts)
	checkWords(t, s, m, ids(parts...)...)
	for some := range 1 << len(parts) {
		var of []api.ID
		for n, p := range parts {
			if some>>n&1 == 1 {
				of = append(of, p.id)
			}
		}
		checkHeads(t, s, m.heads(of), of...)
	}
}

// someParts are commits of any shape, and a few other objects, that may be their parents too.
func someParts(t testing.TB, r *rand.Rand) []part {
	t.Helper()
	parts := []part{blob(t, "b"), tree(t)}
	back := 1 + r.Intn(12)
	for n := range 2 + r.Intn(25) {
		var parents []api.ID
		for range r.Intn(5) {
			parents = append(parents, parts[max(0, len(parts)-1-r.Intn(back))].id)
		}
		if r.Intn(10) == 0 {
			parts = append(parts, tag(t, strconv.Itoa(n), parts[r.Intn(len(parts))].id))
			continue
		}
		parents = set(parents...)
		r.Shuffle(len(parents), func(i, j int) { parents[i], parents[j] = parents[j], parents[i] })
		parts = append(parts, commit(t, strconv.Itoa(n), parents...))
	}
	return parts
}

// P10.1, P10.2: commits of any shape, some of them there.
func TestRandom(t *testing.T) {
	r := rand.New(rand.NewSource(104))
	for range 150 {
		parts := someParts(t, r)
		r.Shuffle(len(parts), func(i, j int) { parts[i], parts[j] = parts[j], parts[i] })
		has := parts[:len(parts)-r.Intn(2)*r.Intn(len(parts)/4+1)]
		s, m := stored(t, has...), byWords(has)
		for range 4 {
			var asked []api.ID
			for range r.Intn(6) {
				asked = append(asked, parts[r.Intn(len(parts))].id)
			}
			checkWords(t, s, m, asked...)
		}
		holds(t, s, has...)
	}
}

// P10.4: an ancestor's depth is lesser, and an ancestor's ancestor is an ancestor.
func TestAncestorsFollow(t *testing.T) {
	r := rand.New(rand.NewSource(105))
	count := 0
	for range 100 {
		parts := someParts(t, r)
		s, all := stored(t, parts...), ids(parts...)
		for _, a := range all {
			for _, b := range all {
				if !ancestry.Ancestor(s, a, b) {
					continue
				}
				count++
				if ancestry.Depth(s, a) >= ancestry.Depth(s, b) {
					t.Fatal("an ancestor's depth", a, b)
				}
				for _, c := range all {
					if ancestry.Ancestor(s, c, a) && !ancestry.Ancestor(s, c, b) {
						t.Fatal("an ancestor's ancestor", c, a, b)
					}
				}
			}
		}
	}
	if count < 1000 {
		t.Error("too few were ancestors", count)
	}
}

// P10.4: of some ids each is a head, or an ancestor of a head, and not both.
func TestHeadsFollow(t *testing.T) {
	r := rand.New(rand.NewSource(106))
	heads, behind := 0, 0
	for range 300 {
		parts := someParts(t, r)
		s := stored(t, parts...)
		var some []api.ID
		for range 1 + r.Intn(12) {
			some = append(some, parts[r.Intn(len(parts))].id)
		}
		l := ancestry.Heads(s, some...)
		for _, id := range l {
			if !slices.Contains(some, id) {
				t.Fatal("a head that was not handed in", id)
			}
		}
		for _, id := range some {
			head := slices.Contains(l, id)
			if head == slices.ContainsFunc(l, func(other api.ID) bool { return ancestry.Ancestor(s, id, other) }) {
				t.Fatal("a head, or behind one", id, head)
			}
			if head {
				heads++
			} else {
				behind++
			}
		}
	}
	if heads < 300 || behind < 300 {
		t.Error("too few were met", heads, behind)
	}
}

// P10.4: in a history each stands behind those whose ancestor it is; and it has all ancestors, and no others.
func TestHistoryFollows(t *testing.T) {
	r := rand.New(rand.NewSource(107))
	for range 100 {
		parts := someParts(t, r)
		s := stored(t, parts...)
		for _, p := range parts {
			history := ancestry.History(s, p.id, math.MaxInt)
			for n, id := range history {
				for _, behind := range history[n:] {
					if ancestry.Ancestor(s, id, behind) {
						t.Fatal("an ancestor stands ahead", id, behind)
					}
				}
			}
			for _, other := range parts {
				in := p.kind == api.KindCommit && (other.id == p.id || ancestry.Ancestor(s, other.id, p.id))
				if in != slices.Contains(history, other.id) {
					t.Fatal("in the history", other.id, p.id, in)
				}
			}
		}
	}
}

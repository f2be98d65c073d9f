package closure_test

import (
	"bytes"
	"cmp"
	"crypto/sha256"
	"math"
	"math/rand"
	"slices"
	"strconv"
	"strings"
	"testing"

	"marshes/api"
	"marshes/closure"
	"marshes/object"
	"marshes/store"
)

// A part is an object as a test made it: its bytes, its id, and what it refers to, told without asking the program.
type part struct {
	kind  int
	raw   []byte
	id    api.ID
	links []api.Link
}

func partOf(t testing.TB, o api.Object, links ...api.Link) part {
	t.Helper()
	b, e := object.Encode(o)
	if e != api.OK {
		t.Fatal(o, e)
	}
	return part{o.Kind, b, sha256.Sum256(b), links}
}

func blob(t testing.TB, data string) part {
	t.Helper()
	return partOf(t, api.Object{Kind: api.KindBlob, Data: []byte(data)})
}

// tree is one whose entries are these links, of blobs and trees alone.
func tree(t testing.TB, links ...api.Link) part {
	t.Helper()
	o := api.Object{Kind: api.KindTree}
	for n, link := range links {
		o.Entries = append(o.Entries, api.Entry{Name: string(rune('a' + n)), Kind: link.Kind, ID: link.ID})
	}
	return partOf(t, o, links...)
}

func commit(t testing.TB, message string, of api.ID, parents ...api.ID) part {
	t.Helper()
	links := []api.Link{{Kind: api.KindTree, ID: of}}
	for _, parent := range parents {
		links = append(links, api.Link{Kind: api.KindCommit, ID: parent})
	}
	return partOf(t, api.Object{Kind: api.KindCommit, Tree: of, Parents: parents, Message: message}, links...)
}

func tag(t testing.TB, message string, target api.Link) part {
	t.Helper()
	return partOf(t, api.Object{Kind: api.KindTag, Target: target, Message: message}, target)
}

// as is a link of a kind to a part.
func as(kind int, p part) api.Link { return api.Link{Kind: kind, ID: p.id} }

// right is the link to a part of the kind that it is.
func right(p part) api.Link { return as(p.kind, p) }

// stored is a store that has these parts.
func stored(t testing.TB, parts ...part) *store.Store {
	t.Helper()
	s, e := store.New(api.MaxQuota)
	if e != api.OK {
		t.Fatal(e)
	}
	put(t, s, parts...)
	return s
}

func put(t testing.TB, s *store.Store, parts ...part) {
	t.Helper()
	for _, p := range parts {
		if id, e := s.Put(p.raw); id != p.id || e != api.OK {
			t.Fatal(p, id, e)
		}
	}
}

// holds says whether a store has just these parts.
func holds(t testing.TB, s *store.Store, parts ...part) {
	t.Helper()
	if s.Len() != len(parts) {
		t.Fatal("the store was turned", s.Len(), len(parts))
	}
	for _, p := range parts {
		if b, there := s.Get(p.id); !there || !bytes.Equal(b, p.raw) {
			t.Fatal("the store was turned", p, b, there)
		}
	}
}

// A found is what a walk comes to.
type found struct {
	reached, missing []api.ID
	wrong            []api.Link
}

func none() found { return found{} }

// byWords is what a walk comes to by the chapter's words: links are gone through again and again, until no more come.
func byWords(parts []part, links ...api.Link) found {
	there := map[api.ID]part{}
	for _, p := range parts {
		there[p.id] = p
	}
	walked := map[api.Link]bool{}
	for _, link := range links {
		walked[link] = true
	}
	for before := -1; before != len(walked); {
		before = len(walked)
		for _, p := range parts {
			if walked[right(p)] || walked[as(api.KindAny, p)] {
				for _, link := range p.links {
					walked[link] = true
				}
			}
		}
	}
	var f found
	for link := range walked {
		p, is := there[link.ID]
		switch {
		case !is:
			f.missing = append(f.missing, link.ID)
		case link.Kind != api.KindAny && link.Kind != p.kind:
			f.wrong = append(f.wrong, link)
		default:
			f.reached = append(f.reached, link.ID)
		}
	}
	f.reached, f.missing = set(f.reached), set(f.missing)
	f.wrong = rising(f.wrong)
	return f
}

// rising are links by their ids, then their kinds, each once.
func rising(links []api.Link) []api.Link {
	links = slices.Clone(links)
	slices.SortFunc(links, func(a, b api.Link) int {
		if c := bytes.Compare(a.ID[:], b.ID[:]); c != 0 {
			return c
		}
		return cmp.Compare(a.Kind, b.Kind)
	})
	return slices.Compact(links)
}

// set is a set of ids, by their texts.
func set(ids []api.ID) []api.ID {
	ids = slices.Clone(ids)
	slices.SortFunc(ids, func(a, b api.ID) int { return strings.Compare(string(a[:]), string(b[:])) })
	return slices.Compact(ids)
}

// ids are those of parts, as a set.
func ids(parts ...part) []api.ID {
	var l []api.ID
	for _, p := range parts {
		l = append(l, p.id)
	}
	return set(l)
}

// check asks all that can be asked of a walk, and says whether it comes to what is wanted.
func check(t testing.TB, s *store.Store, parts []part, want found, links ...api.Link) {
	t.Helper()
	reached, missing, wrong := closure.Walk(s, links...)
	if !slices.Equal(reached, want.reached) || !slices.Equal(missing, want.missing) || !slices.Equal(wrong, want.wrong) {
		t.Fatal("Walk", links, "\nreached", reached, want.reached, "\nmissing", missing, want.missing, "\nwrong", wrong, want.wrong)
	}
	if closed := closure.Closed(s, links...); closed != (len(want.missing)+len(want.wrong) == 0) {
		t.Fatal("Closed", links, closed)
	}
	for _, most := range []int{math.MinInt, -1, 0, 1, len(want.missing) - 1, len(want.missing), len(want.missing) + 1, math.MaxInt} {
		first := want.missing[:max(0, min(most, len(want.missing)))]
		if l := closure.Missing(s, most, links...); !slices.Equal(l, first) {
			t.Fatal("Missing", most, links, l, first)
		}
	}
	checkObjects(t, closure.Objects(s, links...), parts, want.reached)
}

// checkObjects says whether a list has the bytes of these ids, in order.
func checkObjects(t testing.TB, l [][]byte, parts []part, reached []api.ID) {
	t.Helper()
	if len(l) != len(reached) {
		t.Fatal("Objects", len(l), len(reached))
	}
	for n, id := range reached {
		at := slices.IndexFunc(parts, func(p part) bool { return p.id == id })
		if at < 0 || !bytes.Equal(l[n], parts[at].raw) {
			t.Fatal("Objects", n, l[n], id)
		}
	}
}

// checkWords says whether a walk in a store with these parts comes to what the chapter's words say.
func checkWords(t testing.TB, s *store.Store, parts []part, links ...api.Link) {
	t.Helper()
	check(t, s, parts, byWords(parts, links...), links...)
}

// kinds are numbers that a link may have: any, the four, and some that are no kind's.
func kinds() []int {
	return []int{api.KindAny, api.KindBlob, api.KindTree, api.KindCommit, api.KindTag, 5, 255, 256, 257, 1 << 32, 1<<32 + 1, math.MaxInt, -1, -4, math.MinInt}
}

// four is an object of each kind, in the order of the kinds, each refers to the one ahead of it.
func four(t testing.TB) []part {
	t.Helper()
	b := blob(t, "ab")
	r := tree(t, right(b))
	c := commit(t, "first", r.id)
	return []part{b, r, c, tag(t, "one", right(c))}
}

// P9.1: the chapter's examples.
func TestExamples(t *testing.T) {
	b := blob(t, "ab")
	if !bytes.Equal(b.raw, []byte{1, 2, 'a', 'b'}) {
		t.Fatal(b)
	}
	link := as(api.KindAny, b)
	check(t, nil, nil, found{missing: []api.ID{b.id}}, link)
	s, has := stored(t, b), []part{b}
	check(t, s, has, found{wrong: []api.Link{{Kind: api.KindTree, ID: b.id}}}, as(api.KindTree, b))
	check(t, s, has, found{reached: []api.ID{b.id}}, as(api.KindBlob, b))
	check(t, s, has, found{reached: []api.ID{b.id}}, as(api.KindAny, b))
}

// P9.1, P9.2: where nothing is there, all is missing, of whatever kind, and nothing else is found.
func TestNoStore(t *testing.T) {
	small, e := store.New(0)
	if e != api.OK {
		t.Fatal(e)
	}
	for _, s := range []*store.Store{nil, {}, new(store.Store), small, stored(t)} {
		check(t, s, nil, none())
		check(t, s, nil, none(), []api.Link{}...)
		for _, kind := range kinds() {
			one, two, last := api.Link{Kind: kind, ID: api.ID{1}}, api.Link{Kind: kind, ID: api.ID{2}}, api.Link{Kind: kind}
			check(t, s, nil, found{missing: []api.ID{{1}}}, one)
			check(t, s, nil, found{missing: []api.ID{{1}}}, one, one)
			check(t, s, nil, found{missing: []api.ID{{}, {1}, {2}}}, two, one, last, two)
			check(t, s, nil, found{missing: []api.ID{{1}}}, one, api.Link{Kind: api.KindTree, ID: api.ID{1}})
		}
		if s.Len() != 0 {
			t.Error(s)
		}
	}
}

// P9.1, P9.2: from no links one comes to nothing, whatever is there.
func TestNoLinks(t *testing.T) {
	parts := four(t)
	check(t, stored(t, parts...), parts, none())
	check(t, stored(t, parts...), parts, none(), []api.Link{}...)
}

// P9.1: an object of each kind by a link of each kind, and one that is not there.
func TestKinds(t *testing.T) {
	parts := four(t)
	s := stored(t, parts...)
	for n, p := range parts {
		for _, kind := range kinds() {
			link := as(kind, p)
			want := found{wrong: []api.Link{link}}
			if kind == api.KindAny || kind == p.kind {
				want = found{reached: ids(parts[:n+1]...)} // each refers to the one ahead
			}
			check(t, s, parts, want, link)
			check(t, s, parts, want, link, link)
			check(t, s, parts, found{missing: []api.ID{{byte(n)}}}, api.Link{Kind: kind, ID: api.ID{byte(n)}})
		}
	}
}

// P9.1: ids that are like one that is there, but for one bit, are missing.
func TestNearIDs(t *testing.T) {
	b := blob(t, "ab")
	s := stored(t, b)
	for bit := range 256 {
		id := b.id
		id[bit/8] ^= 1 << (bit % 8)
		check(t, s, []part{b}, found{missing: []api.ID{id}}, closure.Any(id)...)
		check(t, s, []part{b}, found{reached: []api.ID{b.id}, missing: []api.ID{id}}, closure.Any(id, b.id)...)
	}
}

// P9.1: one id as two unlike kinds, in each order: both are walked, by itself each.
func TestTwoKinds(t *testing.T) {
	parts := four(t)
	s := stored(t, parts...)
	for n, p := range parts {
		for _, kind := range kinds() {
			for _, other := range kinds() {
				want := none()
				for _, k := range []int{kind, other} {
					if k == api.KindAny || k == p.kind {
						want.reached = ids(parts[:n+1]...)
					} else {
						want.wrong = append(want.wrong, as(k, p))
					}
				}
				want.wrong = rising(want.wrong)
				check(t, s, parts, want, as(kind, p), as(other, p))
				check(t, s, parts, want, as(kind, p), as(other, p), as(kind, p), as(other, p))
			}
		}
	}
}

// P9.1: one id as two unlike kinds, where other objects refer to it so.
func TestTwoKindsWithin(t *testing.T) {
	b := blob(t, "ab")
	bad := tree(t, as(api.KindTree, b))
	both := tree(t, right(b), as(api.KindTree, b))
	turned := tree(t, as(api.KindTree, b), right(b))
	odd := commit(t, "of a blob", b.id, b.id)
	parts := []part{b, bad, both, turned, odd}
	s := stored(t, parts...)
	one, two := as(api.KindTree, b), as(api.KindCommit, b)
	check(t, s, parts, found{reached: ids(bad), wrong: []api.Link{one}}, right(bad))
	check(t, s, parts, found{reached: ids(bad, b), wrong: []api.Link{one}}, right(bad), right(b))
	check(t, s, parts, found{reached: ids(bad, b), wrong: []api.Link{one}}, as(api.KindAny, b), right(bad))
	check(t, s, parts, found{reached: ids(both, b), wrong: []api.Link{one}}, right(both))
	check(t, s, parts, found{reached: ids(turned, b), wrong: []api.Link{one}}, right(turned))
	check(t, s, parts, found{reached: ids(odd), wrong: []api.Link{one, two}}, right(odd))
	check(t, s, parts, found{reached: ids(odd, bad, both, turned, b), wrong: []api.Link{one, two}}, right(both), right(odd), right(turned), right(bad))
}

// chain is objects of all kinds that stand behind one another: each refers to the one ahead of it, and reaches all of them.
func chain(t testing.TB) []part {
	t.Helper()
	b := blob(t, "at the end")
	low := tree(t, right(b))
	high := tree(t, right(low))
	first := commit(t, "first", high.id)
	second := commit(t, "second", high.id, first.id)
	inner := tag(t, "inner", right(second))
	return []part{b, low, high, first, second, inner, tag(t, "outer", right(inner))}
}

// P9.1, P9.2: all that an object reaches, over several steps, from each step on.
func TestSteps(t *testing.T) {
	parts := chain(t)
	s := stored(t, parts...)
	for n, p := range parts {
		check(t, s, parts, found{reached: ids(parts[:n+1]...)}, right(p))
		check(t, s, parts, found{reached: ids(parts[:n+1]...)}, as(api.KindAny, p))
	}
}

// P9.1: what stands behind a part that is missing is not walked, though it is there.
func TestMissingMidst(t *testing.T) {
	parts := chain(t)
	b, low, high, first, second, inner, outer := parts[0], parts[1], parts[2], parts[3], parts[4], parts[5], parts[6]
	for _, k := range []struct {
		gone    part
		reached []api.ID
	}{
		{b, ids(low, high, first, second, inner, outer)},
		{low, ids(high, first, second, inner, outer)},
		{high, ids(first, second, inner, outer)},
		{first, ids(b, low, high, second, inner, outer)}, // the second one has the same tree
		{second, ids(inner, outer)},
		{inner, ids(outer)},
		{outer, nil},
	} {
		rest := slices.DeleteFunc(slices.Clone(parts), func(p part) bool { return p.id == k.gone.id })
		s := stored(t, rest...)
		check(t, s, rest, found{reached: k.reached, missing: ids(k.gone)}, right(outer))
		check(t, s, rest, found{reached: k.reached, missing: ids(k.gone)}, right(outer), right(k.gone), as(api.KindAny, k.gone))
		checkWords(t, s, rest, right(outer), right(b), right(low), right(second))
	}
}

// P9.1: what stands behind a part of a wrong kind is not walked, though it is there.
func TestWrongMidst(t *testing.T) {
	parts := chain(t)
	b, low, high := parts[0], parts[1], parts[2]
	bad := as(api.KindCommit, high)
	odd := tag(t, "of a tree, as a commit", bad)
	all := append(slices.Clone(parts), odd)
	s := stored(t, all...)
	check(t, s, all, found{reached: ids(odd), wrong: []api.Link{bad}}, right(odd))
	check(t, s, all, found{reached: ids(odd, low, b), wrong: []api.Link{bad}}, right(odd), right(low))
	check(t, s, all, found{reached: ids(odd, high, low, b), wrong: []api.Link{bad}}, right(odd), right(high))
}

// P9.1, P9.2: each kind of object, all of whose links are there, missing, and wrong.
func TestEachLink(t *testing.T) {
	b, c := blob(t, "b"), blob(t, "c")
	r, q := tree(t), tree(t, right(b))
	p, o := commit(t, "p", r.id), commit(t, "o", r.id)
	small := []part{b, c, r, q, p, o}
	for _, top := range []part{
		tree(t, right(b), right(r), right(c), right(q), right(b)),
		commit(t, "m", q.id, p.id, o.id),
		commit(t, "m", r.id),
		tag(t, "m", right(b)), tag(t, "m", right(q)), tag(t, "m", right(p)),
		tag(t, "m", as(api.KindTag, p)),
		tree(t, as(api.KindTree, c), as(api.KindBlob, r), as(api.KindBlob, p)),
		commit(t, "m", p.id, b.id, q.id, o.id),
	} {
		for there := range 1 << len(small) {
			has := []part{top}
			for n, one := range small {
				if there>>n&1 == 1 {
					has = append(has, one)
				}
			}
			s := stored(t, has...)
			checkWords(t, s, has, right(top))
			checkWords(t, s, has, right(top), right(b), as(api.KindBlob, q), right(top))
		}
	}
}

// P9.1: an object to which several others lead is reached once.
func TestShared(t *testing.T) {
	b := blob(t, "shared")
	one, two := tree(t, right(b)), tree(t, right(b), right(b))
	both := tree(t, right(one), right(two), right(one))
	c, d := commit(t, "c", both.id), commit(t, "d", both.id)
	merged := commit(t, "merged", both.id, c.id, d.id)
	parts := []part{b, one, two, both, c, d, merged}
	s := stored(t, parts...)
	check(t, s, parts, found{reached: ids(parts...)}, right(merged))
	check(t, s, parts, found{reached: ids(parts...)}, right(d), right(merged), right(c), right(b), right(merged))
	check(t, s, parts, found{reached: ids(parts[:6]...)}, right(d), as(api.KindAny, c))
	rest := parts[1:]
	check(t, stored(t, rest...), rest, found{reached: ids(rest...), missing: ids(b)}, right(merged))
}

// P9.1: each link is walked once: by any other way this one would not end, as it has 2 to the 300 ways down.
func TestManyWays(t *testing.T) {
	parts := []part{blob(t, "")}
	last := tree(t, right(parts[0]))
	for range 300 {
		parts = append(parts, last)
		last = tree(t, right(last), right(last))
	}
	parts = append(parts, last)
	check(t, stored(t, parts...), parts, found{reached: ids(parts...)}, right(last))
	rest := parts[1:]
	check(t, stored(t, rest...), rest, found{reached: ids(rest...), missing: ids(parts[0])}, right(last))
}

// P9.1: very many objects, one behind the other.
func TestDeep(t *testing.T) {
	empty := tree(t)
	parts := []part{empty, commit(t, "", empty.id)}
	for range 1 << 15 {
		parts = append(parts, commit(t, "", empty.id, parts[len(parts)-1].id))
	}
	s := stored(t, parts...)
	top := right(parts[len(parts)-1])
	reached, missing, wrong := closure.Walk(s, top)
	if !slices.Equal(reached, ids(parts...)) || len(missing) != 0 || len(wrong) != 0 {
		t.Error(len(reached), missing, wrong)
	}
	if !closure.Closed(s, top) {
		t.Error("not closed")
	}
	rest := slices.Delete(slices.Clone(parts), 1, 2)
	if missing := closure.Missing(stored(t, rest...), 9, top); !slices.Equal(missing, ids(parts[1])) {
		t.Error(missing)
	}
}

// P9.1: what is reached and missing comes as sets, what is wrong by ids, then kinds, each once, in whatever order it is walked.
func TestOrder(t *testing.T) {
	r := rand.New(rand.NewSource(9))
	var parts []part
	var links []api.Link
	for n := range 40 {
		p := blob(t, strconv.Itoa(n))
		if n%2 == 0 {
			parts = append(parts, p)
		}
		for _, kind := range kinds() {
			links = append(links, as(kind, p), as(kind, p))
		}
	}
	s := stored(t, parts...)
	for range 5 {
		r.Shuffle(len(links), func(i, j int) { links[i], links[j] = links[j], links[i] })
		reached, missing, wrong := closure.Walk(s, links...)
		if !slices.Equal(reached, ids(parts...)) || len(missing) != 20 || len(wrong) != 20*(len(kinds())-2) {
			t.Fatal(len(reached), len(missing), len(wrong))
		}
		for n := range len(missing) - 1 {
			if bytes.Compare(missing[n][:], missing[n+1][:]) >= 0 {
				t.Fatal(n, missing)
			}
		}
		for n := range len(wrong) - 1 {
			a, b := wrong[n], wrong[n+1]
			if c := bytes.Compare(a.ID[:], b.ID[:]); c > 0 || c == 0 && a.Kind >= b.Kind {
				t.Fatal(n, a, b)
			}
		}
	}
}

// P9.2: the first ones of those that are missing, at most so many.
func TestMissing(t *testing.T) {
	b := blob(t, "ab")
	r := tree(t, right(b), as(api.KindTree, part{id: api.ID{3}}), as(api.KindBlob, part{id: api.ID{1}}))
	c := commit(t, "c", r.id, api.ID{2}, api.ID{5})
	s := stored(t, c, r)
	all := set([]api.ID{b.id, {1}, {2}, {3}, {5}, {4}})
	for _, k := range []struct{ most, count int }{{math.MinInt, 0}, {-2, 0}, {-1, 0}, {0, 0}, {1, 1}, {2, 2}, {3, 3}, {5, 5}, {6, 6}, {7, 6}, {100, 6}, {math.MaxInt, 6}} {
		for _, links := range [][]api.Link{closure.Any(c.id, api.ID{4}), closure.Any(api.ID{4}, api.ID{2}, c.id, c.id, r.id)} {
			if l := closure.Missing(s, k.most, links...); !slices.Equal(l, all[:k.count]) {
				t.Error(k, l)
			}
			if l := closure.Missing(s, k.most); len(l) != 0 {
				t.Error(k, l)
			}
		}
	}
	if l := closure.Missing(s, 5, as(api.KindTree, c), as(api.KindCommit, r)); len(l) != 0 {
		t.Error("nothing is missing of what is wrong", l)
	}
}

// P9.2: the bytes of all that is reached, by their ids, and of nothing else.
func TestObjects(t *testing.T) {
	parts := chain(t)
	other := blob(t, "not reached")
	s := stored(t, append(slices.Clone(parts), other)...)
	l := closure.Objects(s, as(api.KindTree, other), right(parts[6]), api.Link{ID: api.ID{1}}, right(parts[2]))
	if len(l) != len(parts) {
		t.Fatal(len(l))
	}
	for n, id := range ids(parts...) {
		if sha256.Sum256(l[n]) != id {
			t.Error(n, l[n], id)
		}
	}
	if l := closure.Objects(s, as(api.KindTree, other), api.Link{ID: api.ID{1}}); len(l) != 0 {
		t.Error(l)
	}
}

// P9.2: of each id, in order, the link of any kind.
func TestAny(t *testing.T) {
	for _, k := range []struct {
		ids  []api.ID
		want []api.Link
	}{
		{nil, nil},
		{[]api.ID{}, nil},
		{[]api.ID{{}}, []api.Link{{}}},
		{[]api.ID{{7}}, []api.Link{{Kind: 0, ID: api.ID{7}}}},
		{[]api.ID{{9}, {1}, {5}}, []api.Link{{ID: api.ID{9}}, {ID: api.ID{1}}, {ID: api.ID{5}}}},
		{[]api.ID{{9}, {1}, {9}}, []api.Link{{ID: api.ID{9}}, {ID: api.ID{1}}, {ID: api.ID{9}}}},
		{[]api.ID{{9}, {9}}, []api.Link{{ID: api.ID{9}}, {ID: api.ID{9}}}},
	} {
		before := slices.Clone(k.ids)
		l := closure.Any(k.ids...)
		if !slices.Equal(l, k.want) {
			t.Error(k, l)
		}
		for n := range l {
			l[n] = api.Link{Kind: 4, ID: api.ID{255}}
		}
		if !slices.Equal(k.ids, before) {
			t.Error("turned", k.ids, before)
		}
	}
}

// mixed is a store of which a walk from some links comes to all: what is reached, missing, wrong.
func mixed(t testing.TB) ([]part, []api.Link) {
	t.Helper()
	b := blob(t, "ab")
	r := tree(t, right(b), as(api.KindTree, part{id: api.ID{3}}), as(api.KindTree, b), as(api.KindBlob, part{id: api.ID{1}}))
	c := commit(t, "c", r.id, api.ID{2}, r.id)
	return []part{b, r, c}, []api.Link{right(c), as(api.KindTag, r), {Kind: 9, ID: api.ID{4}}, right(c)}
}

// P9.3: links and the store are only read, what is behind the links' end too.
func TestOnlyRead(t *testing.T) {
	parts, links := mixed(t)
	s := stored(t, parts...)
	whole := append(slices.Clone(links), api.Link{Kind: 7, ID: api.ID{7}}, api.Link{Kind: 8, ID: api.ID{8}})
	before := slices.Clone(whole)
	handed := whole[:len(links)]
	for range 2 {
		checkWords(t, s, parts, handed...)
		if !slices.Equal(whole, before) {
			t.Fatal("the links were turned", whole)
		}
		holds(t, s, parts...)
	}
}

// P9.3: what is answered is new memory: turned, the store, the links and other answers are as they were.
func TestNewMemory(t *testing.T) {
	parts, links := mixed(t)
	s := stored(t, parts...)
	handed := slices.Clone(links)
	want := byWords(parts, links...)
	if len(want.reached) != 3 || len(want.missing) != 4 || len(want.wrong) != 3 {
		t.Fatal(want)
	}
	for range 2 {
		reached, missing, wrong := closure.Walk(s, handed...)
		first := closure.Missing(s, 2, handed...)
		l := closure.Objects(s, handed...)
		spoilIDs(reached)
		if !slices.Equal(missing, want.missing) || !slices.Equal(wrong, want.wrong) {
			t.Fatal("shared", missing, wrong)
		}
		spoilIDs(missing)
		for n := range wrong[:cap(wrong)] {
			wrong[:cap(wrong)][n] = api.Link{Kind: -1}
		}
		if !slices.Equal(first, want.missing[:2]) {
			t.Fatal("shared", first)
		}
		spoilIDs(first)
		checkObjects(t, l, parts, want.reached)
		spoilBytes(t, l)
		if !slices.Equal(handed, links) {
			t.Fatal("the links were turned", handed)
		}
		holds(t, s, parts...)
		check(t, s, parts, want, handed...)
	}
}

// spoilIDs turns all the memory of a list.
func spoilIDs(l []api.ID) {
	l = l[:cap(l)]
	for n := range l {
		l[n] = api.ID{255, byte(n)}
	}
}

// spoilBytes turns all the memory of each of some bytes, and says whether they share any.
func spoilBytes(t testing.TB, l [][]byte) {
	t.Helper()
	for n, b := range l {
		others := make([][]byte, len(l))
		for m, other := range l {
			others[m] = bytes.Clone(other)
		}
		b = b[:cap(b)]
		for i := range b {
			b[i] ^= 255
		}
		for m, other := range l {
			if m != n && !bytes.Equal(other, others[m]) {
				t.Fatal("shared", n, m)
			}
		}
	}
}

// small is a world of twelve objects; some refer to others that are there, some to ones that are not, some as a wrong kind.
func small(t testing.TB) []part {
	t.Helper()
	b, c := blob(t, "b"), blob(t, "c")
	empty := tree(t)
	r := tree(t, right(b), right(empty), right(c))
	bad := tree(t, as(api.KindTree, b), right(r), as(api.KindBlob, part{id: api.ID{1}}))
	first := commit(t, "first", r.id)
	second := commit(t, "second", bad.id, first.id)
	merged := commit(t, "merged", r.id, second.id, first.id)
	odd := commit(t, "odd", c.id, merged.id, r.id)
	one := tag(t, "one", right(merged))
	two := tag(t, "two", as(api.KindCommit, one))
	return []part{b, c, empty, r, bad, first, second, merged, odd, one, two, tag(t, "three", right(two))}
}

// P9.1, P9.2: all stores with some of the twelve objects, walked from each link of each kind, and from two of them.
func TestAllParts(t *testing.T) {
	parts := small(t)
	for there := range 1 << len(parts) {
		var has []part
		for n, p := range parts {
			if there>>n&1 == 1 {
				has = append(has, p)
			}
		}
		s := stored(t, has...)
		for n, p := range parts {
			other := parts[(n+there)%len(parts)]
			checkWords(t, s, has, right(p))
			checkWords(t, s, has, as((n+there)%5, p), as(there%4, other))
		}
	}
}

// someParts are objects that refer to one another, mostly as they should.
func someParts(t testing.TB, r *rand.Rand) []part {
	t.Helper()
	parts := []part{blob(t, "of all"), tree(t)}
	pick := func(kind int) api.ID {
		for range 20 {
			if p := parts[r.Intn(len(parts))]; p.kind == kind {
				return p.id
			}
		}
		return []api.ID{{byte(r.Intn(3))}, parts[r.Intn(len(parts))].id}[r.Intn(2)]
	}
	for n := range 5 + r.Intn(25) {
		name := strconv.Itoa(n)
		var p part
		switch r.Intn(5) {
		case 0:
			p = blob(t, name)
		case 1, 2:
			var links []api.Link
			for range r.Intn(5) {
				kind := 1 + r.Intn(2)
				links = append(links, api.Link{Kind: kind, ID: pick(kind)})
			}
			p = tree(t, links...)
		case 3:
			var parents []api.ID
			for range r.Intn(4) {
				parents = append(parents, pick(api.KindCommit))
			}
			p = commit(t, name, pick(api.KindTree), set(parents)...)
		default:
			kind := 1 + r.Intn(4)
			p = tag(t, name, api.Link{Kind: kind, ID: pick(kind)})
		}
		if !slices.ContainsFunc(parts, func(one part) bool { return one.id == p.id }) {
			parts = append(parts, p)
		}
	}
	return parts
}

// someLinks are links to some of the parts, mostly as they should be.
func someLinks(r *rand.Rand, parts []part) []api.Link {
	var links []api.Link
	for range r.Intn(5) {
		p := parts[r.Intn(len(parts))]
		links = append(links, []api.Link{right(p), right(p), as(api.KindAny, p), as(r.Intn(6), p)}[r.Intn(4)])
	}
	return links
}

// P9.1, P9.2: objects that refer to one another in any way, some of them there.
func TestRandom(t *testing.T) {
	r := rand.New(rand.NewSource(91))
	for range 400 {
		parts := someParts(t, r)
		r.Shuffle(len(parts), func(i, j int) { parts[i], parts[j] = parts[j], parts[i] })
		has := parts[:len(parts)-r.Intn(len(parts)/2+1)]
		s := stored(t, has...)
		for range 6 {
			checkWords(t, s, has, someLinks(r, parts)...)
		}
		holds(t, s, has...)
	}
}

// P9.4: what is closed stays closed, and reaches the same, whatever is put.
func TestStaysClosed(t *testing.T) {
	r := rand.New(rand.NewSource(94))
	closed := 0
	for range 200 {
		parts := someParts(t, r)
		order := slices.Clone(parts)
		if r.Intn(2) == 0 {
			r.Shuffle(len(order), func(i, j int) { order[i], order[j] = order[j], order[i] })
		}
		links := someLinks(r, parts)
		s := stored(t)
		var reached []api.ID
		was := false
		for n, p := range order {
			put(t, s, p)
			now, missing, wrong := closure.Walk(s, links...)
			is := closure.Closed(s, links...)
			if is != (len(missing) == 0 && len(wrong) == 0) {
				t.Fatal(links, missing, wrong)
			}
			if was && (!is || !slices.Equal(now, reached)) {
				t.Fatal("it was closed", n, links, missing, wrong)
			}
			if was = is; is {
				closed++
				reached = now
			}
		}
	}
	if closed < 500 {
		t.Error("too few were closed", closed)
	}
}

// P9.4: another store with some of the objects: what is missing there is reached in the first one, and, put again and again, closes the links there, too.
func TestComesTogether(t *testing.T) {
	r := rand.New(rand.NewSource(95))
	closed := 0
	for range 600 {
		parts := someParts(t, r)
		first := stored(t, parts...)
		links := someLinks(r, parts)
		if !closure.Closed(first, links...) {
			continue
		}
		closed++
		reached, _, _ := closure.Walk(first, links...)
		second := stored(t)
		for _, p := range parts {
			if r.Intn(2) == 0 {
				put(t, second, p)
			}
		}
		follow(t, first, second, reached, []int{1, 2, 3, math.MaxInt}[r.Intn(4)], links)
	}
	if closed < 100 {
		t.Error("too few were closed", closed)
	}
}

// follow puts what is missing in the second store, at most so many at a time, until the links are closed there.
func follow(t testing.TB, first, second *store.Store, reached []api.ID, most int, links []api.Link) {
	t.Helper()
	rounds := 0
	for !closure.Closed(second, links...) {
		some, missing, wrong := closure.Walk(second, links...)
		if len(wrong) != 0 || len(missing) == 0 {
			t.Fatal(links, missing, wrong)
		}
		for _, id := range slices.Concat(some, missing) {
			if !slices.Contains(reached, id) {
				t.Fatal("not reached in the first one", id)
			}
		}
		for _, id := range closure.Missing(second, most, links...) {
			b, _ := first.Get(id)
			if now, e := second.Put(b); now != id || e != api.OK {
				t.Fatal(id, now, e)
			}
		}
		if rounds++; rounds > len(reached) {
			t.Fatal("it does not end", links)
		}
	}
	now, missing, wrong := closure.Walk(second, links...)
	if !slices.Equal(now, reached) || len(missing) != 0 || len(wrong) != 0 {
		t.Fatal(now, reached, missing, wrong)
	}
	one, other := closure.Objects(first, links...), closure.Objects(second, links...)
	if !slices.EqualFunc(one, other, bytes.Equal) {
		t.Fatal("unlike objects", len(one), len(other))
	}
}

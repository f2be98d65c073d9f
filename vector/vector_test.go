package vector_test

import (
	"bytes"
	"encoding/binary"
	"math"
	"math/rand"
	"slices"
	"testing"

	"marshes/api"
	"marshes/leb"
	"marshes/vector"
)

const (
	sites = 16
	top   = 1<<32 - 1
	over  = 1 << 32
)

// at is a dot.
func at(site, counter int) api.Dot {
	return api.Dot{Site: site, Counter: counter}
}

// of is the vector of the first sites' counters.
func of(counters ...uint32) api.Vector {
	var v api.Vector
	copy(v[:], counters)
	return v
}

// only is a vector with one counter.
func only(site int, counter uint32) api.Vector {
	var v api.Vector
	v[site] = counter
	return v
}

// full is a vector with one counter in all sites.
func full(counter uint32) api.Vector {
	var v api.Vector
	for site := range v {
		v[site] = counter
	}
	return v
}

// edges are counters at the bounds, and at those of a number's bytes.
func edges() []uint32 {
	return []uint32{0, 1, 2, 127, 128, 300, 16383, 16384, 1<<28 - 1, 1 << 28, 1<<31 - 1, 1 << 31, top - 1, top}
}

// wrong are dots that may not be.
func wrong() []api.Dot {
	return []api.Dot{
		{}, at(0, 0), at(15, 0), at(0, over), at(15, over), at(7, over+1), at(3, -1), at(0, -1), at(0, -top), at(0, -over), at(0, 1-over), at(0, math.MaxInt), at(0, math.MinInt), at(0, math.MinInt+1),
		at(16, 1), at(16, top), at(-1, 1), at(-1, top), at(-16, 1), at(17, 5), at(31, 1), at(32, 1), at(256, 1), at(over, 1), at(-over, 1), at(math.MaxInt, 1), at(math.MinInt, 1),
		at(16, 0), at(-1, 0), at(16, over), at(-1, over), at(-1, -1), at(math.MinInt, math.MinInt), at(math.MaxInt, math.MaxInt),
	}
}

// samples are vectors of many kinds.
func samples() []api.Vector {
	l := []api.Vector{{}, of(1), of(2, 0, 1), of(2, 3, 1), of(1, 3), of(5, 0), full(1), full(128), full(top - 1), full(top), of(1, 2, 3, 4, 5, 6, 7, 8, 9, 10, 11, 12, 13, 14, 15, 16), of(16, 15, 14, 13, 12, 11, 10, 9, 8, 7, 6, 5, 4, 3, 2, 1), of(0, 1, 0, 1, 0, 1, 0, 1, 0, 1, 0, 1, 0, 1, 0, 1), of(top, 0, top, 0, top), of(1, 0, 0, 0, 0, 0, 0, 0, 0, 0, 0, 0, 0, 0, 0, top)}
	for site := range sites {
		l = append(l, only(site, 1), only(site, 300), only(site, top))
	}
	random := rand.New(rand.NewSource(6))
	for range 60 {
		var v api.Vector
		for site := range v {
			v[site] = edges()[random.Intn(len(edges()))]
		}
		l = append(l, v)
	}
	return l
}

// small are all vectors with counters from 0 to 3 in three sites, the first and the last one among them.
func small() []api.Vector {
	var l []api.Vector
	for n := range uint32(64) {
		var v api.Vector
		v[0], v[7], v[15] = n%4, n/4%4, n/16
		l = append(l, v)
	}
	return l
}

// dotsOf are the dots that a small vector has, by the chapter's words.
func dotsOf(v api.Vector) map[api.Dot]bool {
	m := map[api.Dot]bool{}
	for site, counter := range v {
		for k := 1; k <= int(counter); k++ {
			m[at(site, k)] = true
		}
	}
	return m
}

// beyond is how many dots of one are none of another one.
func beyond(a, b map[api.Dot]bool) int {
	n := 0
	for d := range a {
		if !b[d] {
			n++
		}
	}
	return n
}

// P6.1: each counter with dots at it and beside it, at the bounds, and in other sites.
func TestHas(t *testing.T) {
	for site := range sites {
		for _, counter := range edges() {
			v := only(site, counter)
			c := int(counter)
			for _, k := range []int{math.MinInt, -over, 1 - over, -1, 0, 1, 2, 3, c - 1, c, c + 1, c + 2, c + over, c - over, 1 << 31, top - 1, top, over, over + 1, math.MaxInt} {
				for other := -17; other < 40; other++ {
					want := other == site && k >= 1 && k <= c
					if got := vector.Has(v, at(other, k)); got != want {
						t.Fatalf("%v has %d.%d: %v", v, other, k, got)
					}
				}
			}
		}
	}
	v := of(5, 0, 7)
	for d, want := range map[api.Dot]bool{at(0, 1): true, at(0, 5): true, at(0, 6): false, at(1, 1): false, at(2, 6): true, at(2, 7): true, at(2, 8): false, at(3, 1): false, at(15, 1): false, at(0, top): false} {
		if got := vector.Has(v, d); got != want {
			t.Errorf("%v has %v: %v", v, d, got)
		}
	}
	for _, d := range wrong() {
		for _, v := range samples() {
			if vector.Has(v, d) {
				t.Errorf("%v has %v, which may not be", v, d)
			}
		}
	}
}

// turned is how b stands to a, if this is how a stands to b.
func turned(how int) int {
	switch how {
	case api.VectorBefore:
		return api.VectorBehind
	case api.VectorBehind:
		return api.VectorBefore
	}
	return how
}

// stands says how one vector stands to another one, by AtMost too, each way.
func stands(t *testing.T, a, b api.Vector, want int) {
	t.Helper()
	if got := vector.Compare(a, b); got != want {
		t.Errorf("%v and %v: %d, not %d", a, b, got, want)
	}
	if got := vector.Compare(b, a); got != turned(want) {
		t.Errorf("%v and %v: %d, not %d", b, a, got, turned(want))
	}
	if got := vector.AtMost(a, b); got != (want == api.VectorSame || want == api.VectorBefore) {
		t.Errorf("%v is at most %v: %v", a, b, got)
	}
	if got := vector.AtMost(b, a); got != (want == api.VectorSame || want == api.VectorBehind) {
		t.Errorf("%v is at most %v: %v", b, a, got)
	}
}

// P6.1: the same, before, behind and apart, in the first site, the last one, in each and in several.
func TestCompare(t *testing.T) {
	if api.VectorSame != 0 || api.VectorBefore != 1 || api.VectorBehind != 2 || api.VectorApart != 3 {
		t.Error("the numbers are others")
	}
	stands(t, of(2, 0, 1), of(2, 3, 1), api.VectorBefore)
	stands(t, of(1, 0), of(0, 1), api.VectorApart)
	stands(t, api.Vector{}, api.Vector{}, api.VectorSame)
	stands(t, api.Vector{}, full(top), api.VectorBefore)
	stands(t, full(top), full(top), api.VectorSame)
	stands(t, full(top-1), full(top), api.VectorBefore)
	stands(t, of(1, 2, 3), of(2, 3, 4), api.VectorBefore)
	stands(t, of(1, 2, 3), of(2, 2, 2), api.VectorApart)
	stands(t, of(3, 2, 1), of(1, 2, 3), api.VectorApart)
	stands(t, of(0, 0, 9), of(8, 8, 8), api.VectorApart)
	for _, v := range samples() {
		stands(t, v, v, api.VectorSame)
	}
	for site := range sites {
		a, b := full(1<<31), full(1<<31)
		b[site]++
		stands(t, a, b, api.VectorBefore)
		stands(t, only(site, 1<<31-1), only(site, 1<<31), api.VectorBefore)
		stands(t, only(site, 1), only(site, top), api.VectorBefore)
		stands(t, api.Vector{}, only(site, 1), api.VectorBefore)
		for other := range sites {
			if other == site {
				continue
			}
			c := b
			c[other]++
			stands(t, b, c, api.VectorBefore)
			c = a
			c[other]++
			stands(t, b, c, api.VectorApart)
			stands(t, only(site, top), only(other, 1), api.VectorApart)
		}
	}
}

// P6.1: how many dots one lacks, each way.
func TestLacks(t *testing.T) {
	for _, x := range []struct {
		a, b          api.Vector
		lacks, others uint64
	}{
		{api.Vector{}, api.Vector{}, 0, 0},
		{of(2, 0, 1), of(2, 3, 1), 3, 0},
		{of(1, 0), of(0, 1), 1, 1},
		{of(5, 1, 9), of(2, 4, 3), 3, 9},
		{api.Vector{}, of(0, 1, 2), 3, 0},
		{api.Vector{}, only(0, top), top, 0},
		{api.Vector{}, only(15, top), top, 0},
		{only(0, top), only(15, top), top, top},
		{api.Vector{}, full(top), 16 * top, 0},
		{full(top), full(top), 0, 0},
		{full(top - 1), full(top), 16, 0},
		{full(1), full(top), 16 * (top - 1), 0},
		{of(top, 0, top, 0), of(0, top, 0, top), 2 * top, 2 * top},
		{of(1, top), of(top, 1), top - 1, top - 1},
	} {
		if got := vector.Lacks(x.a, x.b); got != x.lacks {
			t.Errorf("%v lacks %d of %v", x.a, got, x.b)
		}
		if got := vector.Lacks(x.b, x.a); got != x.others {
			t.Errorf("%v lacks %d of %v", x.b, got, x.a)
		}
	}
	for site := range sites {
		if got := vector.Lacks(only(site, 3), full(5)); got != 15*5+2 {
			t.Errorf("all but three of site %d: %d", site, got)
		}
	}
}

// P6.1, P6.2: all pairs of small vectors, held against the sets of their dots.
func TestSetsOfDots(t *testing.T) {
	for _, a := range small() {
		has := dotsOf(a)
		for site := range sites {
			for k := range 6 {
				if d := at(site, k); vector.Has(a, d) != has[d] {
					t.Fatalf("%v has %v: %v", a, d, !has[d])
				}
			}
		}
		for _, b := range small() {
			ofB := dotsOf(b)
			more, less := beyond(ofB, has), beyond(has, ofB)
			how := api.VectorApart
			switch {
			case more == 0 && less == 0:
				how = api.VectorSame
			case less == 0:
				how = api.VectorBefore
			case more == 0:
				how = api.VectorBehind
			}
			stands(t, a, b, how)
			if got := vector.Lacks(a, b); got != uint64(more) {
				t.Fatalf("%v lacks %d of %v, not %d", a, got, b, more)
			}
			merged, met := dotsOf(vector.Merge(a, b)), dotsOf(vector.Meet(a, b))
			if len(merged) != len(has)+more || beyond(has, merged)+beyond(ofB, merged) != 0 {
				t.Fatalf("%v and %v merged: %v", a, b, vector.Merge(a, b))
			}
			if len(met) != len(has)-less || beyond(met, has)+beyond(met, ofB) != 0 {
				t.Fatalf("%v and %v met: %v", a, b, vector.Meet(a, b))
			}
		}
	}
}

// plainMerge takes the greatest counter of each site; plainMeet the least one.
func plainMerge(l []api.Vector) api.Vector { return plainly(l, slices.Max[[]uint32]) }
func plainMeet(l []api.Vector) api.Vector  { return plainly(l, slices.Min[[]uint32]) }

func plainly(l []api.Vector, of func([]uint32) uint32) api.Vector {
	var whole api.Vector
	if len(l) == 0 {
		return whole
	}
	for site := range whole {
		var column []uint32
		for _, v := range l {
			column = append(column, v[site])
		}
		whole[site] = of(column)
	}
	return whole
}

// together says what vectors are merged and met.
func together(t *testing.T, l ...api.Vector) {
	t.Helper()
	if got := vector.Merge(l...); got != plainMerge(l) {
		t.Errorf("%v merged: %v", l, got)
	}
	if got := vector.Meet(l...); got != plainMeet(l) {
		t.Errorf("%v met: %v", l, got)
	}
}

// P6.2: none, one, two and more.
func TestMergeMeet(t *testing.T) {
	a, b := of(2, 0, 1), of(1, 3)
	if got := vector.Merge(a, b); got != of(2, 3, 1) {
		t.Errorf("merged: %v", got)
	}
	if got := vector.Meet(a, b); got != of(1, 0, 0) {
		t.Errorf("met: %v", got)
	}
	if vector.Merge(of(1, 0), of(0, 1)) != of(1, 1) || vector.Meet(of(1, 0), of(0, 1)) != of(0, 0) {
		t.Error("1 0 and 0 1 are merged, or met, otherwise")
	}
	if vector.Merge() != of() || vector.Meet() != of() || vector.Merge([]api.Vector{}...) != of() || vector.Meet([]api.Vector{}...) != of() || vector.Merge(nil...) != of() || vector.Meet(nil...) != of() {
		t.Error("of none there is something")
	}
	if got := vector.Meet(full(3), full(top), full(2), full(9)); got != full(2) {
		t.Errorf("met: %v", got)
	}
	if got := vector.Merge(full(3), full(top), full(2), full(9)); got != full(top) {
		t.Errorf("merged: %v", got)
	}
	for _, v := range samples() {
		if vector.Merge(v) != v || vector.Meet(v) != v {
			t.Errorf("%v alone is merged, or met, to another one", v)
		}
		if vector.Merge(v, of()) != v || vector.Meet(v, of()) != of() || vector.Merge(v, full(top)) != full(top) || vector.Meet(v, full(top)) != v {
			t.Errorf("%v with nothing, or with all: wrong", v)
		}
		for _, w := range samples() {
			together(t, v, w)
		}
	}
	for site := range sites {
		rest := full(4)
		rest[site] = 9
		together(t, full(5), rest)
		together(t, full(5), rest, only(site, 7))
		together(t, only(site, 1), only(sites-1-site, top), full(1))
	}
	for n := range len(samples()) {
		together(t, samples()[:n]...)
	}
}

// orders tells a list in each order.
func orders(l []api.Vector, tell func([]api.Vector)) {
	var next func(front, rest []api.Vector)
	next = func(front, rest []api.Vector) {
		if len(rest) == 0 {
			tell(front)
		}
		for i := range rest {
			next(append(slices.Clone(front), rest[i]), slices.Delete(slices.Clone(rest), i, i+1))
		}
	}
	next(nil, l)
}

// P6.6: no order, no vector that is there twice, and no way to put them together matters; each is at most what is merged, and what is met at most each.
func TestAnyOrder(t *testing.T) {
	random := rand.New(rand.NewSource(7))
	all := samples()
	for range 60 {
		var l []api.Vector
		for range 1 + random.Intn(4) {
			l = append(l, all[random.Intn(len(all))])
		}
		merged, met := vector.Merge(l...), vector.Meet(l...)
		orders(l, func(one []api.Vector) {
			if vector.Merge(one...) != merged || vector.Meet(one...) != met {
				t.Fatalf("%v: another order, another answer", one)
			}
			for cut := range one {
				twice := slices.Concat(one, one[cut:])
				if vector.Merge(twice...) != merged || vector.Meet(twice...) != met {
					t.Fatalf("%v: one that is there twice makes another answer", twice)
				}
				if cut == 0 {
					continue
				}
				if vector.Merge(vector.Merge(one[:cut]...), vector.Merge(one[cut:]...)) != merged || vector.Meet(vector.Meet(one[:cut]...), vector.Meet(one[cut:]...)) != met {
					t.Fatalf("%v: in parts, cut at %d, another answer", one, cut)
				}
			}
		})
		for _, v := range l {
			if !vector.AtMost(v, merged) || !vector.AtMost(met, v) || vector.Lacks(merged, v) != 0 || vector.Lacks(v, met) != 0 {
				t.Fatalf("%v is not between %v and %v", v, met, merged)
			}
		}
	}
}

// P6.3: the next dot of each site, at each counter.
func TestNext(t *testing.T) {
	if d, e := vector.Next(of(5, 0), 0); d != at(0, 6) || e != api.OK {
		t.Errorf("of 5 0, site 0: %v, error %d", d, e)
	}
	for site := range sites {
		for _, counter := range edges() {
			for _, rest := range []uint32{0, 7, top} {
				v := full(rest)
				v[site] = counter
				want, wantE := at(site, int(counter)+1), api.OK
				if counter == top {
					want, wantE = api.Dot{}, api.ErrOver
				}
				if d, e := vector.Next(v, site); d != want || e != wantE {
					t.Errorf("%v, site %d: %v, error %d", v, site, d, e)
				}
			}
		}
	}
	for _, site := range []int{-1, -2, -16, 16, 17, 32, 255, 256, over, -over, math.MaxInt, math.MinInt} {
		for _, v := range []api.Vector{{}, full(1), full(top)} {
			if d, e := vector.Next(v, site); d != (api.Dot{}) || e != api.ErrDot {
				t.Errorf("%v, site %d: %v, error %d", v, site, d, e)
			}
		}
	}
}

// refused says that a dot can't be added, and why.
func refused(t *testing.T, v api.Vector, d api.Dot, want api.Errno) {
	t.Helper()
	if got, e := vector.Add(v, d); got != (api.Vector{}) || e != want {
		t.Errorf("%v to %v: %v, error %d, not %d", d, v, got, e, want)
	}
}

// P6.3: the next dot alone is added, at each site and each counter.
func TestAdd(t *testing.T) {
	refused(t, of(5, 0), at(1, 2), api.ErrGap)
	refused(t, api.Vector{}, at(0, 2), api.ErrGap)
	refused(t, api.Vector{}, at(15, top), api.ErrGap)
	for site := range sites {
		for _, counter := range edges() {
			for _, rest := range []uint32{0, 7, top} {
				v := full(rest)
				v[site] = counter
				c := int(counter)
				for _, k := range []int{1, 2, c - 1, c, c + 2, c + 3, 1 << 31, top - 1, top} {
					if k >= 1 && k <= top && k != c+1 {
						refused(t, v, at(site, k), api.ErrGap)
					}
				}
				if counter == top {
					refused(t, v, at(site, over), api.ErrDot)
					continue
				}
				want := v
				want[site] = counter + 1
				if got, e := vector.Add(v, at(site, c+1)); got != want || e != api.OK {
					t.Errorf("%d.%d to %v: %v, error %d", site, c+1, v, got, e)
				}
			}
		}
	}
	for _, d := range wrong() {
		for _, v := range samples() {
			refused(t, v, d, api.ErrDot)
		}
	}
}

// P6.3: what Next says can be added, whereupon it is had, once.
func TestNextIsAdded(t *testing.T) {
	for _, v := range samples() {
		for site := range sites {
			d, e := vector.Next(v, site)
			if e != api.OK {
				continue
			}
			w, e := vector.Add(v, d)
			if e != api.OK || vector.Has(v, d) || !vector.Has(w, d) || vector.Lacks(v, w) != 1 || vector.Compare(v, w) != api.VectorBefore {
				t.Fatalf("%v to %v: %v, error %d", d, v, w, e)
			}
			refused(t, w, d, api.ErrGap)
		}
	}
}

// P6.6: dots offered in any order: each is taken if it is the next one, and the vector has just those that were.
func TestDotByDot(t *testing.T) {
	random := rand.New(rand.NewSource(8))
	for range 50 {
		var v api.Vector
		had := map[api.Dot]bool{}
		for range 400 {
			d := at(random.Intn(sites+2)-1, random.Intn(12))
			want := api.OK
			switch {
			case d.Site < 0 || d.Site >= sites || d.Counter == 0:
				want = api.ErrDot
			case had[d] || d.Counter > 1 && !had[at(d.Site, d.Counter-1)]:
				want = api.ErrGap
			}
			next, e := vector.Add(v, d)
			if e != want {
				t.Fatalf("%v to %v: error %d, not %d", d, v, e, want)
			}
			if e == api.OK {
				v, had[d] = next, true
			}
		}
		for site := -2; site < sites+2; site++ {
			for k := -1; k < 14; k++ {
				if d := at(site, k); vector.Has(v, d) != had[d] {
					t.Fatalf("%v has %v: %v", v, d, !had[d])
				}
			}
		}
		if vector.Lacks(api.Vector{}, v) != uint64(len(had)) {
			t.Fatalf("%v has not as many dots as %d", v, len(had))
		}
	}
}

// plainBytes are a vector's, as another program writes them.
func plainBytes(v api.Vector) []byte {
	count := sites
	for count > 0 && v[count-1] == 0 {
		count--
	}
	b := binary.AppendUvarint(nil, uint64(count))
	for _, counter := range v[:count] {
		b = binary.AppendUvarint(b, uint64(counter))
	}
	return b
}

// P6.4: a vector's bytes.
func TestEncode(t *testing.T) {
	first := []byte{16, 0, 0, 0, 0, 0, 0, 0, 0, 0, 0, 0, 0, 0, 0, 0}
	for _, x := range []struct {
		v api.Vector
		b []byte
	}{
		{of(2, 0, 1), []byte{3, 2, 0, 1}},
		{api.Vector{}, []byte{0}},
		{of(1), []byte{1, 1}},
		{of(300), []byte{1, 0xAC, 2}},
		{of(5, 0), []byte{1, 5}},
		{of(0, 0, 7), []byte{3, 0, 0, 7}},
		{of(1, 0, 0, 128), []byte{4, 1, 0, 0, 0x80, 1}},
		{only(0, top), []byte{1, 0xFF, 0xFF, 0xFF, 0xFF, 0x0F}},
		{only(15, 1), append(bytes.Clone(first), 1)},
		{only(15, top), append(bytes.Clone(first), 0xFF, 0xFF, 0xFF, 0xFF, 0x0F)},
		{full(1), append([]byte{16}, bytes.Repeat([]byte{1}, 16)...)},
		{full(top), append([]byte{16}, bytes.Repeat([]byte{0xFF, 0xFF, 0xFF, 0xFF, 0x0F}, 16)...)},
	} {
		if got := vector.Encode(x.v); !bytes.Equal(got, x.b) {
			t.Errorf("%v: %x", x.v, got)
		}
		reads(t, x.b, x.v, 0)
	}
	for _, v := range append(samples(), small()...) {
		b := vector.Encode(v)
		if !bytes.Equal(b, plainBytes(v)) {
			t.Errorf("%v: %x", v, b)
		}
		reads(t, b, v, 0)
		for size := range b {
			refuses(t, b[:size], api.ErrShort)
		}
		for _, tail := range [][]byte{{0}, {0x80}, {16}, {1, 2}, b} {
			reads(t, slices.Concat(b, tail), v, len(tail))
		}
	}
}

// reads says that bytes begin with a vector's, and what is left behind it.
func reads(t *testing.T, b []byte, want api.Vector, left int) {
	t.Helper()
	s := leb.From(b)
	if v, e := vector.Decode(s); v != want || e != api.OK || s.Left() != left {
		t.Errorf("%x: %v, error %d, left %d", b, v, e, s.Left())
	}
	if rest, e := s.Raw(left); e != api.OK || !bytes.Equal(rest, b[len(b)-left:]) {
		t.Errorf("%x: %x is left, error %d", b, rest, e)
	}
}

// refuses says that bytes do not begin with a vector's.
func refuses(t *testing.T, b []byte, want api.Errno) {
	t.Helper()
	if v, e := vector.Decode(leb.From(b)); v != (api.Vector{}) || e != want {
		t.Errorf("%x: %v, error %d, not %d", b, v, e, want)
	}
}

// P6.4: bytes that are no vector's, and which error comes first.
func TestDecodeWrong(t *testing.T) {
	for _, x := range []struct {
		b []byte
		e api.Errno
	}{
		{nil, api.ErrShort}, {[]byte{}, api.ErrShort}, {[]byte{0x80}, api.ErrShort}, {[]byte{1}, api.ErrShort}, {[]byte{1, 0x80}, api.ErrShort}, {[]byte{2, 1}, api.ErrShort}, {[]byte{2, 0}, api.ErrShort}, {[]byte{3, 2, 0}, api.ErrShort}, {[]byte{16, 1, 1, 1}, api.ErrShort}, {[]byte{1, 0xFF, 0xFF, 0xFF, 0xFF}, api.ErrShort},
		{[]byte{17}, api.ErrMost}, {append([]byte{17}, bytes.Repeat([]byte{1}, 17)...), api.ErrMost}, {[]byte{0x7F}, api.ErrMost}, {[]byte{0x80, 1}, api.ErrMost}, {[]byte{0x80, 2, 1}, api.ErrMost}, {[]byte{17, 0x80}, api.ErrMost}, {[]byte{17, 0}, api.ErrMost}, {[]byte{0x81, 0x80, 0x80, 0x80, 0x10, 1}, api.ErrMost}, {[]byte{0xFF, 0xFF, 0xFF, 0xFF, 0xFF, 0xFF, 0xFF, 0xFF, 0xFF, 1, 1}, api.ErrMost}, {[]byte{0x81, 0x80, 0x80, 0x80, 0x80, 0x80, 0x80, 0x80, 0x80, 1, 1}, api.ErrMost},
		{[]byte{1, 0x80, 0x80, 0x80, 0x80, 0x10}, api.ErrMost}, {[]byte{1, 0x81, 0x80, 0x80, 0x80, 0x10}, api.ErrMost}, {[]byte{2, 0x80, 0x80, 0x80, 0x80, 0x10, 1}, api.ErrMost}, {[]byte{2, 1, 0x80, 0x80, 0x80, 0x80, 0x10}, api.ErrMost}, {[]byte{2, 0x80, 0x80, 0x80, 0x80, 0x10, 0}, api.ErrMost}, {[]byte{2, 0x80, 0x80, 0x80, 0x80, 0x10}, api.ErrMost}, {[]byte{1, 0xFF, 0xFF, 0xFF, 0xFF, 0xFF, 0xFF, 0xFF, 0xFF, 0xFF, 1}, api.ErrMost},
		{[]byte{0x80, 0}, api.ErrForm}, {[]byte{0x81, 0, 1}, api.ErrForm}, {[]byte{0x91, 0}, api.ErrForm}, {[]byte{1, 0x81, 0}, api.ErrForm}, {[]byte{1, 0x80, 0}, api.ErrForm}, {[]byte{2, 0x80, 0, 1}, api.ErrForm}, {[]byte{2, 1, 0x81, 0}, api.ErrForm}, {[]byte{2, 0x81, 0}, api.ErrForm}, {[]byte{1, 0xFF, 0xFF, 0xFF, 0xFF, 0x8F, 0}, api.ErrForm},
		{bytes.Repeat([]byte{0x80}, 10), api.ErrForm}, {append([]byte{1}, bytes.Repeat([]byte{0xFF}, 10)...), api.ErrForm}, {[]byte{1, 0x80, 0x80, 0x80, 0x80, 0x80, 0x80, 0x80, 0x80, 0x80, 2}, api.ErrForm},
		{[]byte{1, 0}, api.ErrVector}, {[]byte{2, 0, 0}, api.ErrVector}, {[]byte{2, 1, 0}, api.ErrVector}, {[]byte{3, 2, 1, 0}, api.ErrVector}, {[]byte{1, 0, 1}, api.ErrVector}, {[]byte{2, 5, 0, 1, 1}, api.ErrVector}, {append([]byte{16}, make([]byte, 16)...), api.ErrVector}, {append(append([]byte{16}, bytes.Repeat([]byte{9}, 15)...), 0), api.ErrVector},
	} {
		refuses(t, x.b, x.e)
	}
	for count := 17; count < 300; count++ {
		refuses(t, append(binary.AppendUvarint(nil, uint64(count)), bytes.Repeat([]byte{1}, count)...), api.ErrMost)
	}
	for count := range sites + 1 {
		if count == 0 {
			continue
		}
		b := append([]byte{byte(count)}, bytes.Repeat([]byte{1}, count)...)
		for place := 1; place <= count; place++ { // a wrong counter, whichever it is
			refuses(t, slices.Concat(b[:place], []byte{0x80, 0x80, 0x80, 0x80, 0x10}, b[place+1:]), api.ErrMost)
			refuses(t, slices.Concat(b[:place], []byte{0x81, 0}, b[place+1:]), api.ErrForm)
			if place < count { // which is told ahead of a last one that is 0
				refuses(t, slices.Concat(b[:place], []byte{0x81, 0}, b[place+1:count], []byte{0}), api.ErrForm)
			}
		}
		b[count] = 0
		refuses(t, b, api.ErrVector)
	}
	if v, e := vector.Decode(nil); v != (api.Vector{}) || e != api.ErrNil {
		t.Errorf("no Source: %v, error %d", v, e)
	}
	if v, e := vector.Decode(&leb.Source{}); v != (api.Vector{}) || e != api.ErrShort {
		t.Errorf("a Source that nobody made: %v, error %d", v, e)
	}
}

// P6.4: all of up to six bytes out of some: what is read has just these as its bytes, and one stands behind the other.
func TestDecodeWhateverComes(t *testing.T) {
	var whole []byte
	var read []api.Vector
	var all func(b []byte, left int)
	all = func(b []byte, left int) {
		s := leb.From(b)
		if v, e := vector.Decode(s); e == api.OK {
			own := b[:len(b)-s.Left()]
			if !bytes.Equal(plainBytes(v), own) || !bytes.Equal(vector.Encode(v), own) {
				t.Fatalf("%x was read as %v, whose bytes are %x", b, v, plainBytes(v))
			}
			whole, read = append(whole, own...), append(read, v)
		} else if v != (api.Vector{}) {
			t.Fatalf("%x: error %d, and %v", b, e, v)
		}
		if left == 0 {
			return
		}
		for _, one := range []byte{0, 1, 2, 3, 17, 0x80, 0x81} {
			all(append(slices.Clone(b), one), left-1)
		}
	}
	all(nil, 6)
	if len(read) < 20000 {
		t.Errorf("%d times alone there was a vector", len(read))
	}
	s := leb.From(whole)
	for _, want := range read {
		if v, e := vector.Decode(s); v != want || e != api.OK {
			t.Fatalf("one behind the other: %v, error %d", v, e)
		}
	}
	if s.End() != api.OK {
		t.Errorf("one behind the other: %d are left", s.Left())
	}
}

// P6.5: what is handed in stays as it was.
func TestOnlyRead(t *testing.T) {
	l := samples()
	kept := slices.Clone(l)
	v, w := of(5, 0, 7), full(9)
	vector.Merge(l...)
	vector.Meet(l...)
	vector.Merge(l[:1]...)
	vector.Meet(l[:1]...)
	vector.Merge(l[2:5]...)
	vector.Meet(l[2:5]...)
	vector.Has(v, at(0, 6))
	vector.AtMost(v, w)
	vector.Compare(v, w)
	vector.Lacks(v, w)
	vector.Next(v, 0)
	vector.Add(v, at(0, 6))
	vector.Add(v, at(0, 7))
	vector.Encode(v)
	if !slices.Equal(l, kept) || v != of(5, 0, 7) || w != full(9) {
		t.Error("what was handed in is changed")
	}
	memory := []byte{3, 2, 0, 1, 1, 0x80, 0, 5}
	s := leb.From(memory)
	vector.Decode(s)
	vector.Decode(s)
	if !bytes.Equal(memory, []byte{3, 2, 0, 1, 1, 0x80, 0, 5}) {
		t.Error("the bytes are changed")
	}
}

// P6.5: what is answered lies in memory of its own: whatever becomes of it, what was handed in stays, and the next answer is the same.
func TestNewMemory(t *testing.T) {
	l := []api.Vector{of(2, 0, 1), of(1, 3), full(4)}
	kept := slices.Clone(l)
	for name, call := range map[string]func() api.Vector{
		"merged":       func() api.Vector { return vector.Merge(l...) },
		"one merged":   func() api.Vector { return vector.Merge(l[:1]...) },
		"none merged":  func() api.Vector { return vector.Merge(l[:0]...) },
		"met":          func() api.Vector { return vector.Meet(l...) },
		"one met":      func() api.Vector { return vector.Meet(l[:1]...) },
		"none met":     func() api.Vector { return vector.Meet(l[:0]...) },
		"added to":     func() api.Vector { v, _ := vector.Add(l[0], at(0, 3)); return v },
		"read":         func() api.Vector { v, _ := vector.Decode(leb.From([]byte{1, 9})); return v },
		"not added to": func() api.Vector { v, _ := vector.Add(l[0], at(0, 9)); return v },
	} {
		got := call()
		want := got
		for site := range got {
			got[site] = 77
		}
		if call() != want || !slices.Equal(l, kept) {
			t.Errorf("%s: the answer shares memory", name)
		}
	}
	merged, met := vector.Merge(l...), vector.Meet(l...)
	clear(l)
	if merged != plainMerge(kept) || met != plainMeet(kept) {
		t.Error("an answer changes with what was handed in")
	}
	one := vector.Encode(of(2, 0, 1))
	clear(one[:cap(one)])
	if two := vector.Encode(of(2, 0, 1)); !bytes.Equal(two, []byte{3, 2, 0, 1}) {
		t.Errorf("bytes are kept: %x", two)
	}
	zero := vector.Encode(of())
	zero[0] = 9
	if two := vector.Encode(of()); !bytes.Equal(two, []byte{0}) {
		t.Errorf("bytes of nothing but 0 are kept: %x", two)
	}
}

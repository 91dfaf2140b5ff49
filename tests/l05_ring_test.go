package tests

import (
	"math"
	"math/big"
	"reflect"
	"slices"
	"sort"
	"testing"

	"loop.example/g00241/impl"
)

// dev and ring spare the field names where there are many of them.
func dev(id, zone, weight int) impl.Dev { return impl.Dev{Id: id, Zone: zone, Weight: weight} }

func ring(reps int, parts ...[]int) impl.Ring {
	r := impl.Ring{Reps: reps}
	for _, ids := range parts {
		r.Parts = append(r.Parts, impl.Part{Devs: ids})
	}
	return r
}

func part(ids ...int) impl.Part { return impl.Part{Devs: ids} }

// manyParts has n Parts of the Ids 0 to reps-1.
func manyParts(n, reps int) impl.Ring {
	r := impl.Ring{Reps: reps}
	for range n {
		r.Parts = append(r.Parts, part(idsTo(reps)...))
	}
	return r
}

func idsTo(n int) []int {
	ids := []int{}
	for id := range n {
		ids = append(ids, id)
	}
	return ids
}

func copyRing(r impl.Ring) impl.Ring {
	c := impl.Ring{Reps: r.Reps}
	for _, p := range r.Parts {
		c.Parts = append(c.Parts, part(slices.Clone(p.Devs)...))
	}
	return c
}

func copyParts(l []impl.Part) []impl.Part { return copyRing(impl.Ring{Parts: l}).Parts }

func zonesRight(p impl.Part, l []impl.Dev) []int {
	zones := []int{}
	for _, d := range l {
		if slices.Contains(p.Devs, d.Id) && !slices.Contains(zones, d.Zone) {
			zones = append(zones, d.Zone)
		}
	}
	return zones
}

func loadRight(r impl.Ring, id int) int {
	load := 0
	for _, p := range r.Parts {
		for _, x := range p.Devs {
			if x == id {
				load++
			}
		}
	}
	return load
}

// bestRight is the document's own rule, written apart from the program's way: all that p has not, sorted by fractions.
func bestRight(r impl.Ring, p impl.Part, l []impl.Dev) int {
	if !devsRight(l) {
		return -1
	}
	type choice struct {
		id    int
		old   bool
		share *big.Rat
	}
	zones, all := zonesRight(p, l), []choice{}
	for i := len(l) - 1; i >= 0; i-- {
		d := l[i]
		if !slices.Contains(p.Devs, d.Id) {
			all = append(all, choice{d.Id, slices.Contains(zones, d.Zone), big.NewRat(int64(loadRight(r, d.Id)+1), int64(d.Weight))})
		}
	}
	sort.Slice(all, func(i, k int) bool {
		a, b := all[i], all[k]
		if a.old != b.old {
			return b.old
		}
		if c := a.share.Cmp(b.share); c != 0 {
			return c < 0
		}
		return a.id < b.id
	})
	if len(all) == 0 {
		return -1
	}
	return all[0].id
}

func buildRight(l []impl.Dev, parts, reps int) impl.Ring {
	r := impl.Ring{Reps: reps}
	for range parts {
		p := part()
		for range reps {
			sofar := impl.Ring{Reps: reps, Parts: append(copyParts(r.Parts), p)}
			p = part(append(slices.Clone(p.Devs), bestRight(sofar, p, l))...)
		}
		r.Parts = append(r.Parts, p)
	}
	return r
}

func ringRight(r impl.Ring, l []impl.Dev) bool {
	ids := map[int]bool{}
	for _, d := range l {
		ids[d.Id] = true
	}
	for _, p := range r.Parts {
		seen := map[int]bool{}
		for _, id := range p.Devs {
			if !ids[id] || seen[id] {
				return false
			}
			seen[id] = true
		}
		if len(p.Devs) != r.Reps {
			return false
		}
	}
	return devsRight(l) && len(r.Parts) >= 1 && len(r.Parts) <= 64 && r.Reps >= 1 && r.Reps <= 5
}

// rightDevs makes devices that are right, the same in every run of a seed: of few zones or many, of few weights or many.
func rightDevs(seed uint32) []impl.Dev {
	b := someBytes(40, seed)
	zones, weights := 1+int(b[0]%6), []int{1, 2, 3, 1000}[b[1]%4]
	l, id := []impl.Dev{}, -1
	for i := range 1 + int(b[2]%12) {
		id += 1 + int(b[3+i]%8)/7
		if id > 20 {
			break
		}
		l = append(l, dev(id, int(b[16+i])%zones, 1+(int(b[16+i])*int(b[3+i]))%weights))
	}
	return l
}

// mixedRing makes a ring of Ids around those of l, right or not, the same in every run of a seed.
func mixedRing(seed uint32, l []impl.Dev) impl.Ring {
	b := someBytes(64, seed+77777)
	r := impl.Ring{Reps: int(b[0] % 7)}
	at := 2
	for range int(b[1] % 8) {
		ids := []int{}
		for range max(r.Reps, 1) + int(b[at]%16)/15 {
			at++
			if len(l) > 0 && b[at]%16 != 0 {
				ids = append(ids, l[int(b[at])%len(l)].Id)
			} else {
				ids = append(ids, int(b[at]%30)-4)
			}
		}
		r.Parts = append(r.Parts, part(ids...))
	}
	return r
}

// fiveDevs stand in three zones, with unlike weights.
func fiveDevs() []impl.Dev {
	return []impl.Dev{dev(0, 0, 1), dev(1, 0, 1), dev(2, 1, 3), dev(3, 1, 1), dev(4, 2, 1000)}
}

func TestRingsByTheirSize(t *testing.T) {
	l := devsFrom(0, 12)
	for _, parts := range []int{0, 1, 2, 63, 64, 65, 66, 200} {
		for reps := range 9 {
			want := parts >= 1 && parts <= 64 && reps >= 1 && reps <= 5
			if ok := impl.RingOk(manyParts(parts, reps), l); ok != want {
				t.Errorf("%d Parts of %d: %v", parts, reps, ok)
			}
		}
	}
	for _, reps := range []int{-1, 0, 2, 4, 6, math.MinInt, math.MaxInt} {
		r := manyParts(3, 3)
		r.Reps = reps
		if impl.RingOk(r, l) {
			t.Errorf("Reps of %d, and 3 Ids", reps)
		}
	}
	for _, r := range []impl.Ring{{}, {Reps: 1}, {Reps: 5}, {Reps: 1, Parts: []impl.Part{}}, {Parts: []impl.Part{{}}}, {Parts: []impl.Part{{Devs: []int{}}, {}}}} {
		if impl.RingOk(r, l) {
			t.Error("is not right:", r)
		}
	}
}

func TestRingsByTheirDevs(t *testing.T) {
	r := manyParts(4, 3)
	for n := range 16 {
		if l := devsFrom(0, n); impl.RingOk(r, l) != (n >= 3 && n <= 12) {
			t.Errorf("%d devices: %v", n, impl.RingOk(r, l))
		}
	}
	for _, spoil := range []func(l []impl.Dev){
		func(l []impl.Dev) { l[0].Id = -1 }, func(l []impl.Dev) { l[4].Id = 21 }, func(l []impl.Dev) { l[4].Zone = 21 }, func(l []impl.Dev) { l[3].Zone = -1 },
		func(l []impl.Dev) { l[4].Weight = 0 }, func(l []impl.Dev) { l[4].Weight = 1001 }, func(l []impl.Dev) { l[4].Id = 3 }, func(l []impl.Dev) { l[3], l[4] = l[4], l[3] },
	} {
		l := fiveDevs()
		if !impl.RingOk(r, l) {
			t.Error("is right:", r, l)
		}
		spoil(l)
		if impl.RingOk(r, l) {
			t.Error("devices that are not right:", l)
		}
	}
	if impl.RingOk(r, nil) || impl.RingOk(r, fiveDevs()[:2]) {
		t.Error("no devices, or one behind the length")
	}
}

func TestRingsWithOnePartThatIsNotRight(t *testing.T) {
	l := []impl.Dev{dev(1, 0, 1), dev(3, 0, 1), dev(5, 0, 9), dev(8, 2, 1), dev(20, 7, 1)}
	for _, x := range []struct {
		ids []int
		ok  bool
	}{
		{[]int{1, 3, 5}, true}, {[]int{20, 8, 1}, true}, {[]int{5, 1, 3}, true}, {[]int{3, 8, 20}, true},
		{nil, false}, {[]int{}, false}, {[]int{1}, false}, {[]int{1, 3}, false}, {[]int{1, 3, 5, 8}, false}, {[]int{1, 3, 5, 8, 20}, false},
		{[]int{1, 1, 3}, false}, {[]int{1, 3, 1}, false}, {[]int{3, 1, 1}, false}, {[]int{1, 1, 1}, false}, {[]int{20, 8, 20}, false}, {[]int{1, 3, 5, 5}, false}, {[]int{1, 3, 5, 4}, false},
		{[]int{0, 1, 3}, false}, {[]int{1, 0, 3}, false}, {[]int{1, 3, 0}, false}, {[]int{1, 3, 2}, false}, {[]int{1, 3, 19}, false}, {[]int{1, 3, 21}, false}, {[]int{1, 3, -1}, false},
		{[]int{1, 3, math.MaxInt}, false}, {[]int{math.MinInt, 3, 1}, false}, {[]int{1, 3, 1<<32 + 5}, false}, {[]int{1, 3, 261}, false},
	} {
		for at := range 4 {
			parts := [][]int{{1, 3, 5}, {8, 5, 3}, {20, 1, 8}, {3, 1, 20}}
			parts[at] = x.ids
			if ok := impl.RingOk(ring(3, parts...), l); ok != x.ok {
				t.Errorf("%v at %d: %v", x.ids, at, ok)
			}
		}
	}
	if !impl.RingOk(ring(5, []int{20, 8, 5, 3, 1}), l) || !impl.RingOk(ring(1, []int{20}, []int{20}), l) {
		t.Error("all devices of a Part, or one for all Parts, are right")
	}
}

func TestMixedRings(t *testing.T) {
	right := 0
	for seed := range uint32(4000) {
		l := rightDevs(seed)
		if seed%8 == 7 {
			l = mixedDevs(seed)
		}
		r := mixedRing(seed, l)
		if impl.RingOk(r, l) != ringRight(r, l) {
			t.Fatal(r, l, impl.RingOk(r, l))
		}
		if ringRight(r, l) {
			right++
		}
		for id := -5; id < 30; id++ {
			if impl.LoadOf(r, id) != loadRight(r, id) {
				t.Fatalf("load of %d in %v: %d", id, r, impl.LoadOf(r, id))
			}
		}
	}
	if right < 100 {
		t.Error("hardly any is right:", right)
	}
}

func TestLoadOf(t *testing.T) {
	r := ring(3, []int{0, 2, 5}, []int{2, 7, 0}, []int{2, 2, -4}, nil, []int{}, []int{9, 2, 9, 9, math.MaxInt})
	for id, want := range map[int]int{0: 2, 2: 5, 5: 1, 7: 1, 9: 3, -4: 1, math.MaxInt: 1, 1: 0, 3: 0, 6: 0, 8: 0, -1: 0, 21: 0, math.MinInt: 0, 1<<32 + 2: 0} {
		if load := impl.LoadOf(r, id); load != want {
			t.Errorf("load of %d: %d, not %d", id, load, want)
		}
	}
	for _, none := range []impl.Ring{{}, {Reps: 3}, {Parts: []impl.Part{}}, {Parts: []impl.Part{{}, {}}}, {Parts: r.Parts[:0]}} {
		for _, id := range []int{0, 2, -1} {
			if load := impl.LoadOf(none, id); load != 0 {
				t.Errorf("of no Parts, load of %d: %d", id, load)
			}
		}
	}
	// What stands behind the lengths is no load.
	cut := impl.Ring{Reps: 3, Parts: []impl.Part{{Devs: r.Parts[0].Devs[:1]}, r.Parts[1]}[:1]}
	if impl.LoadOf(cut, 0) != 1 || impl.LoadOf(cut, 2) != 0 || impl.LoadOf(cut, 7) != 0 {
		t.Error("behind the length:", impl.LoadOf(cut, 0), impl.LoadOf(cut, 2), impl.LoadOf(cut, 7))
	}
	if load := impl.LoadOf(manyParts(300, 7), 6); load != 300 {
		t.Error("of 300 Parts:", load)
	}
}

func TestSpreadOf(t *testing.T) {
	l := []impl.Dev{dev(0, 4, 1), dev(1, 4, 1), dev(2, 0, 5), dev(3, 9, 1), dev(7, 0, 1), dev(20, 20, 1)}
	for _, x := range []struct {
		ids  []int
		want int
	}{
		{nil, 0}, {[]int{}, 0}, {[]int{0}, 1}, {[]int{2}, 1}, {[]int{0, 1}, 1}, {[]int{2, 7}, 1}, {[]int{0, 2}, 2}, {[]int{0, 1, 2, 7}, 2}, {[]int{0, 2, 3}, 3}, {[]int{20, 3, 7, 1}, 4}, {[]int{0, 1, 2, 3, 7, 20}, 4},
		{[]int{0, 0, 0}, 1}, {[]int{3, 0, 3}, 2},
		{[]int{9}, 0}, {[]int{-1}, 0}, {[]int{4, 5, 6, 19, 21}, 0}, {[]int{0, 1, 9}, 1}, {[]int{9, 0, 10, 2, 11}, 2}, {[]int{math.MaxInt, math.MinInt, 3, 1<<32 + 2}, 1},
	} {
		if n := impl.SpreadOf(part(x.ids...), l); n != x.want {
			t.Errorf("%v: %d zones, not %d", x.ids, n, x.want)
		}
	}
	if n := impl.SpreadOf(part(0, 2), nil); n != 0 {
		t.Error("of no devices:", n)
	}
	if n := impl.SpreadOf(part(0, 2, 3), l[:2]); n != 1 {
		t.Error("devices behind the length:", n)
	}
	if n := impl.SpreadOf(impl.Part{Devs: []int{0, 2, 3}[:1]}, l); n != 1 {
		t.Error("Ids behind the length:", n)
	}
	// The words ask for no list that is right; of several of one Id the first counts.
	odd := []impl.Dev{dev(5, -3, 0), dev(2, 99, -1), dev(2, 7, 1), dev(-1, -3, 1), dev(30, 8, 2000)}
	for _, x := range []struct {
		ids  []int
		want int
	}{{[]int{5, -1}, 1}, {[]int{2}, 1}, {[]int{5, 2, 30}, 3}, {[]int{-1, 0, 7}, 1}} {
		if n := impl.SpreadOf(part(x.ids...), odd); n != x.want {
			t.Errorf("%v of devices that are not right: %d zones, not %d", x.ids, n, x.want)
		}
	}
}

func TestBestTakesZonesAheadOfWeights(t *testing.T) {
	l := fiveDevs()
	busy := ring(1, []int{4}, []int{4}, []int{4}, []int{3}, []int{3}, []int{2}, []int{2}, []int{2}, []int{2}, []int{0})
	for _, x := range []struct {
		ids  []int
		want int
	}{
		// Loads and 1, by Weight: 2/1, 1/1, 5/3, 3/1, 4/1000.
		{nil, 4}, {[]int{4}, 1}, {[]int{4, 1}, 2}, {[]int{4, 2}, 1}, {[]int{4, 0}, 2}, {[]int{4, 3}, 1},
		// A new zone, whatever its load.
		{[]int{0, 1}, 4}, {[]int{0, 4}, 2}, {[]int{1, 4}, 2}, {[]int{2, 4}, 1}, {[]int{3, 4}, 1}, {[]int{2, 3}, 4}, {[]int{0, 2}, 4}, {[]int{1, 3}, 4},
		// No new zone is left: the others.
		{[]int{4, 1, 2}, 0}, {[]int{4, 0, 2}, 1}, {[]int{4, 0, 3}, 1}, {[]int{4, 1, 3}, 2}, {[]int{0, 1, 2, 4}, 3}, {[]int{0, 1, 3, 4}, 2}, {[]int{1, 2, 3, 4}, 0}, {[]int{0, 2, 3, 4}, 1}, {[]int{0, 1, 2, 3}, 4},
		// All that there are.
		{[]int{0, 1, 2, 3, 4}, -1}, {[]int{4, 3, 2, 1, 0}, -1}, {[]int{0, 1, 2, 3, 4, 9, 9, -1}, -1},
	} {
		if id := impl.Best(busy, part(x.ids...), l); id != x.want || id != bestRight(busy, part(x.ids...), l) {
			t.Errorf("of %v: %d, not %d", x.ids, id, x.want)
		}
	}
	// A hundred times the load, and a thousandth of the Weight, in the one new zone.
	heavy := []impl.Dev{dev(0, 0, 1000), dev(1, 0, 1000), dev(2, 1, 1)}
	if id := impl.Best(ring(1, []int{2, 2, 2, 2}, slices.Repeat([]int{2}, 100)), part(0), heavy); id != 2 {
		t.Error("a new zone with a great load:", id)
	}
}

func TestBestByLoadsAndWeights(t *testing.T) {
	for _, x := range []struct {
		loads   []int
		weights []int
		want    int
	}{
		{[]int{0, 0, 0}, []int{1, 1, 1}, 0}, {[]int{1, 0, 0}, []int{1, 1, 1}, 1}, {[]int{1, 1, 0}, []int{1, 1, 1}, 2}, {[]int{2, 1, 1}, []int{1, 1, 1}, 1}, {[]int{5, 5, 5}, []int{7, 7, 7}, 0},
		{[]int{0, 0, 0}, []int{1, 2, 3}, 2}, {[]int{0, 0, 0}, []int{1, 3, 3}, 1}, {[]int{0, 0, 2}, []int{1, 1, 3}, 0}, {[]int{1, 0, 2}, []int{2, 1, 3}, 0}, {[]int{1, 0, 1}, []int{1, 1, 3}, 2},
		// Loads without the 1 would be alike (0 of 0), or tell another one.
		{[]int{0, 0}, []int{1, 1000}, 1}, {[]int{1, 1}, []int{2, 3}, 1}, {[]int{1, 2}, []int{2, 4}, 1}, {[]int{2, 4}, []int{4, 8}, 1}, {[]int{0, 1}, []int{1, 3}, 1},
		// Alike when divided: the least Id.
		{[]int{1, 0}, []int{2, 1}, 0}, {[]int{0, 1}, []int{1, 2}, 0}, {[]int{5, 3, 1}, []int{6, 4, 2}, 0}, {[]int{9, 3, 1}, []int{6, 4, 2}, 1}, {[]int{9, 7, 1}, []int{10, 4, 2}, 0},
		// Near to each other: a division of whole numbers takes them for alike, 4/3 and 3/2, 6/5 and 5/4, 9/10 and 8/9.
		{[]int{2, 3}, []int{2, 3}, 1}, {[]int{4, 5}, []int{4, 5}, 1}, {[]int{8, 7}, []int{10, 9}, 1}, {[]int{3, 2}, []int{3, 2}, 0},
		// Weights of 1 and 1000, 999 and 1000.
		{[]int{0, 998}, []int{1, 1000}, 1}, {[]int{0, 999}, []int{1, 1000}, 0}, {[]int{999, 0}, []int{1000, 1}, 0}, {[]int{1000, 0}, []int{1000, 1}, 1}, {[]int{998, 999}, []int{999, 1000}, 0}, {[]int{998, 998}, []int{999, 1000}, 1},
		{[]int{997, 998}, []int{999, 1000}, 0}, {[]int{998, 997}, []int{1000, 999}, 1},
	} {
		l, r := []impl.Dev{}, impl.Ring{Reps: 1}
		for i := range x.loads {
			l = append(l, dev(3*i, 6, x.weights[i]))
			r.Parts = append(r.Parts, part(slices.Repeat([]int{3 * i}, x.loads[i])...))
		}
		if id := impl.Best(r, part(), l); id != 3*x.want || id != bestRight(r, part(), l) {
			t.Errorf("loads %v, weights %v: %d, not %d", x.loads, x.weights, id, 3*x.want)
		}
	}
}

// The ring that Best is handed need not be right, and p need not be one of its Parts.
func TestBestOfWhatIsNotRight(t *testing.T) {
	l := fiveDevs()
	for _, spoil := range []func(l []impl.Dev) []impl.Dev{
		func(l []impl.Dev) []impl.Dev { return nil }, func(l []impl.Dev) []impl.Dev { return l[:0] }, func(l []impl.Dev) []impl.Dev { return devsFrom(0, 13) },
		func(l []impl.Dev) []impl.Dev { l[0].Id = -1; return l }, func(l []impl.Dev) []impl.Dev { l[4].Id = 21; return l }, func(l []impl.Dev) []impl.Dev { l[1].Id = 0; return l },
		func(l []impl.Dev) []impl.Dev { l[2], l[3] = l[3], l[2]; return l }, func(l []impl.Dev) []impl.Dev { l[3].Weight = 0; return l }, func(l []impl.Dev) []impl.Dev { l[3].Weight = 1001; return l },
		func(l []impl.Dev) []impl.Dev { l[3].Weight = math.MinInt; return l }, func(l []impl.Dev) []impl.Dev { l[0].Zone = 21; return l }, func(l []impl.Dev) []impl.Dev { l[0].Zone = -1; return l },
	} {
		bad := spoil(fiveDevs())
		for _, p := range []impl.Part{{}, part(0), part(0, 1, 2), part(9)} {
			if id := impl.Best(manyParts(2, 2), p, bad); id != -1 {
				t.Errorf("Best of %v with devices %v: %d", p, bad, id)
			}
		}
	}
	for _, r := range []impl.Ring{{}, {Reps: -7}, {Reps: 99}, {Parts: []impl.Part{{}}}, ring(2, []int{-1, 99}), ring(1, []int{math.MaxInt}, []int{math.MinInt})} {
		for _, x := range []struct {
			ids  []int
			want int
		}{
			{nil, 4}, {[]int{9}, 4}, {[]int{-1, 21, math.MaxInt, math.MinInt}, 4}, {[]int{9, 4, 9}, 2}, {[]int{4, 4}, 2}, {[]int{4, 2, 19}, 0}, {[]int{4, 2, 0, 19, 19}, 1}, {[]int{9, 8, 0, 1, 2, 3, 4}, -1},
		} {
			if id := impl.Best(r, part(x.ids...), l); id != x.want {
				t.Errorf("of %v and %v: %d, not %d", r, x.ids, id, x.want)
			}
		}
	}
	if id := impl.Best(ring(1, []int{0, 0, 0}), part(), []impl.Dev{dev(0, 0, 1), dev(1, 0, 1)}); id != 1 {
		t.Error("a Part that has an Id thrice counts it thrice:", id)
	}
	if id := impl.Best(impl.Ring{}, part(), []impl.Dev{dev(20, 20, 1)}); id != 20 {
		t.Error("of one device:", id)
	}
	if id := impl.Best(impl.Ring{}, impl.Part{Devs: []int{4, 2, 0}[:1]}, l); id != 2 {
		t.Error("Ids behind the length:", id)
	}
	if id := impl.Best(impl.Ring{}, part(), l[:3]); id != 2 {
		t.Error("devices behind the length:", id)
	}
}

func TestBestOfMixedRings(t *testing.T) {
	told := map[int]int{}
	for seed := range uint32(4000) {
		l := rightDevs(seed)
		if seed%16 == 15 {
			l = mixedDevs(seed)
		}
		r := mixedRing(seed, l)
		for _, p := range append(copyParts(r.Parts), part(), part(idsTo(int(seed%21))...)) {
			id := impl.Best(r, p, l)
			if id != bestRight(r, p, l) {
				t.Fatalf("of %v, %v, %v: %d, not %d", r, p, l, id, bestRight(r, p, l))
			}
			told[id]++
		}
	}
	if len(told) < 12 || told[-1] < 100 {
		t.Error("hardly any are told:", told)
	}
}

func TestBuild(t *testing.T) {
	for _, x := range []struct {
		l           []impl.Dev
		parts, reps int
		want        [][]int
	}{
		{[]impl.Dev{dev(0, 0, 1)}, 1, 1, [][]int{{0}}},
		{[]impl.Dev{dev(20, 20, 1000)}, 3, 1, [][]int{{20}, {20}, {20}}},
		{[]impl.Dev{dev(0, 0, 1), dev(1, 0, 1), dev(2, 1, 1)}, 3, 2, [][]int{{0, 2}, {1, 2}, {0, 2}}},
		{[]impl.Dev{dev(0, 0, 2), dev(1, 0, 1)}, 6, 1, [][]int{{0}, {0}, {1}, {0}, {0}, {1}}},
		{[]impl.Dev{dev(0, 0, 1), dev(1, 0, 2)}, 6, 1, [][]int{{1}, {0}, {1}, {1}, {0}, {1}}},
		{[]impl.Dev{dev(3, 5, 1), dev(4, 5, 1)}, 3, 2, [][]int{{3, 4}, {3, 4}, {3, 4}}},
		// The zone 1 is taken each time, though its device is the lighter one by far.
		{[]impl.Dev{dev(0, 0, 1000), dev(1, 0, 1000), dev(2, 1, 1)}, 3, 2, [][]int{{0, 2}, {1, 2}, {0, 2}}},
		{[]impl.Dev{dev(0, 0, 1), dev(1, 1, 1), dev(2, 2, 1), dev(3, 2, 1)}, 2, 3, [][]int{{0, 1, 2}, {3, 0, 1}}},
		{[]impl.Dev{dev(0, 0, 1), dev(1, 0, 1), dev(2, 1, 1), dev(3, 1, 1), dev(4, 2, 1)}, 3, 3, [][]int{{0, 2, 4}, {1, 3, 4}, {0, 2, 4}}},
		{[]impl.Dev{dev(0, 0, 1), dev(1, 0, 1), dev(2, 0, 1), dev(3, 0, 1), dev(4, 0, 1)}, 2, 5, [][]int{{0, 1, 2, 3, 4}, {0, 1, 2, 3, 4}}},
	} {
		r, ok := impl.Build(x.l, x.parts, x.reps)
		if want := ring(x.reps, x.want...); !ok || !reflect.DeepEqual(r, want) || !impl.RingOk(r, x.l) {
			t.Errorf("%v, %d, %d: %v %v", x.l, x.parts, x.reps, r, ok)
		}
	}
}

func TestBuildByHowMany(t *testing.T) {
	for _, n := range []int{1, 2, 3, 4, 5, 6, 11, 12} {
		l := devsFrom(21-n, n)
		for _, parts := range []int{0, 1, 2, 63, 64, 65, 66, -1, -64, math.MinInt, math.MaxInt} {
			for _, reps := range []int{0, 1, 2, 3, 4, 5, 6, 7, -1, -5, math.MinInt, math.MaxInt} {
				want := parts >= 1 && parts <= 64 && reps >= 1 && reps <= min(n, 5)
				r, ok := impl.Build(l, parts, reps)
				if ok != want || !ok && !reflect.DeepEqual(r, impl.Ring{}) {
					t.Fatalf("%d devices, %d parts, %d reps: %v %v", n, parts, reps, r, ok)
				}
				if ok && (len(r.Parts) != parts || r.Reps != reps || !ringRight(r, l) || !impl.RingOk(r, l)) {
					t.Fatalf("%d devices, %d parts, %d reps: %v", n, parts, reps, r)
				}
			}
		}
	}
}

func TestBuildOfDevsThatAreNotRight(t *testing.T) {
	for _, l := range [][]impl.Dev{
		nil, {}, fiveDevs()[:0], devsFrom(0, 13), devsFrom(0, 21), {dev(0, 0, 0)}, {dev(0, 0, 1001)}, {dev(0, 21, 1)}, {dev(0, -1, 1)}, {dev(21, 0, 1)}, {dev(-1, 0, 1)},
		{dev(0, 0, 1), dev(0, 1, 1)}, {dev(1, 0, 1), dev(0, 1, 1)}, {dev(0, 0, 1), dev(1, 0, 1), dev(1, 1, 1)}, {dev(0, 0, 1), dev(1, 0, 1), dev(2, 1, 0)},
	} {
		for _, parts := range []int{0, 1, 64, 65} {
			for _, reps := range []int{0, 1, 2, 5, 6} {
				if r, ok := impl.Build(l, parts, reps); ok || !reflect.DeepEqual(r, impl.Ring{}) {
					t.Errorf("%v, %d, %d: %v %v", l, parts, reps, r, ok)
				}
			}
		}
	}
}

// What follows, of whatever devices: as many zones as may be, devices that are even loaded evenly, and each replica with somebody.
func TestPartsAreSpreadAndLoadsEven(t *testing.T) {
	for seed := range uint32(1200) {
		l := rightDevs(seed)
		parts, reps := 1+int(seed*37%64), 1+int(seed%5)
		r, ok := impl.Build(l, parts, reps)
		if ok != (reps <= len(l)) {
			t.Fatal(l, parts, reps, ok)
		}
		if ok {
			spreadAndEven(t, r, l, parts, reps)
		}
	}
	for n := 1; n <= 12; n++ {
		for zones := 1; zones <= n; zones++ {
			l := []impl.Dev{}
			for i := range n {
				l = append(l, dev(i, i%zones, 1))
			}
			for reps := 1; reps <= min(n, 5); reps++ {
				for _, parts := range []int{1, 7, 64} {
					r, _ := impl.Build(l, parts, reps)
					spreadAndEven(t, r, l, parts, reps)
				}
			}
		}
	}
}

func spreadAndEven(t *testing.T, r impl.Ring, l []impl.Dev, parts, reps int) {
	t.Helper()
	if len(r.Parts) != parts || !impl.RingOk(r, l) || !ringRight(r, l) {
		t.Fatalf("%v of %v is no ring", r, l)
	}
	most := min(reps, len(zonesRight(part(idsTo(21)...), l)))
	for i, p := range r.Parts {
		if impl.SpreadOf(p, l) != most || len(zonesRight(p, l)) != most {
			t.Fatalf("%v of %v: the Part %d is in %d zones, not %d", r, l, i, impl.SpreadOf(p, l), most)
		}
	}
	all := 0
	for _, a := range l {
		all += impl.LoadOf(r, a.Id)
		for _, b := range l {
			if a.Zone == b.Zone && a.Weight == b.Weight && impl.LoadOf(r, a.Id) > impl.LoadOf(r, b.Id)+1 {
				t.Fatalf("%v of %v: the load of %d is %d, that of %d is %d", r, l, a.Id, impl.LoadOf(r, a.Id), b.Id, impl.LoadOf(r, b.Id))
			}
		}
	}
	if all != parts*reps {
		t.Fatalf("%v of %v: %d loads", r, l, all)
	}
	if !reflect.DeepEqual(r, buildRight(l, parts, reps)) {
		t.Fatalf("%v of %v, not %v", r, l, buildRight(l, parts, reps))
	}
}

// A weight counts against its own zone alone: of one zone loads are as the weights.
func TestLoadsAreAsTheWeights(t *testing.T) {
	l := []impl.Dev{dev(0, 0, 1), dev(1, 0, 2), dev(2, 0, 5), dev(3, 1, 30), dev(4, 1, 10)}
	r, ok := impl.Build(l, 40, 2)
	for id, want := range []int{5, 10, 25, 30, 10} {
		if impl.LoadOf(r, id) != want || !ok {
			t.Errorf("load of %d: %d, not %d", id, impl.LoadOf(r, id), want)
		}
	}
	r, ok = impl.Build([]impl.Dev{dev(0, 0, 1), dev(1, 0, 1000)}, 64, 1)
	if impl.LoadOf(r, 0) != 0 || impl.LoadOf(r, 1) != 64 || !ok {
		t.Error("weights of 1 and 1000:", r)
	}
}

func TestRingsAreLeftAlone(t *testing.T) {
	room := append(fiveDevs(), dev(7, 9, 1), dev(8, 0, 1))
	l := room[:5]
	ids := []int{0, 2, 4, 1, 3, 77, 88, 99}
	parts := []impl.Part{{Devs: ids[:3]}, {Devs: ids[2:4]}, {Devs: ids[:8]}, {Devs: []int{5}}}
	r := impl.Ring{Reps: 3, Parts: parts[:2]}
	keptRoom, keptIds, keptParts := slices.Clone(room), slices.Clone(ids), copyParts(parts)
	for _, p := range []impl.Part{{Devs: ids[:0]}, {Devs: ids[:3]}, {Devs: ids[:4]}} {
		impl.Best(r, p, l)
		impl.SpreadOf(p, l)
	}
	impl.RingOk(r, l)
	impl.LoadOf(r, 2)
	for reps := range 7 {
		impl.Build(l, 9, reps)
	}
	if !slices.Equal(room, keptRoom) || !slices.Equal(ids, keptIds) || !reflect.DeepEqual(parts, keptParts) {
		t.Error("written into:", room, ids, parts)
	}
}

func TestRingsShareNoMemory(t *testing.T) {
	l := fiveDevs()
	want := buildRight(l, 8, 3)
	a, _ := impl.Build(l, 8, 3)
	b, _ := impl.Build(l, 8, 3)
	if !reflect.DeepEqual(a, want) || !reflect.DeepEqual(b, want) {
		t.Fatal(a, b)
	}
	for i := range a.Parts {
		kept := copyRing(a)
		devs := a.Parts[i].Devs
		for k := range devs[:cap(devs)] {
			devs[:cap(devs)][k] = 1000 + 10*i + k
		}
		for k := range a.Parts {
			if k != i && !slices.Equal(a.Parts[k].Devs, kept.Parts[k].Devs) {
				t.Fatalf("the Parts %d and %d share memory", i, k)
			}
		}
	}
	for i := range a.Parts[:cap(a.Parts)] {
		a.Parts[:cap(a.Parts)][i] = part(-3)
	}
	if !reflect.DeepEqual(b, want) || !slices.Equal(l, fiveDevs()) {
		t.Error("shared with an earlier answer, or with the devices:", b, l)
	}
	if c, ok := impl.Build(l, 8, 3); !ok || !reflect.DeepEqual(c, want) {
		t.Error("kept from an earlier call:", c)
	}
	l[0] = dev(20, 20, 1)
	if !reflect.DeepEqual(b, want) {
		t.Error("shared with the devices:", b)
	}
}

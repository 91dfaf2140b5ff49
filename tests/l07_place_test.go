package tests

import (
	"fmt"
	"hash/fnv"
	"math"
	"slices"
	"strings"
	"testing"

	"loop.example/g00241/impl"
)

// partRight tells the place of a name's Part, by a sum of the library's own.
func partRight(s string, parts int) int {
	h := fnv.New32a()
	h.Write([]byte(s))
	return int(h.Sum32()) % parts
}

// nameInto finds a name that falls into this Part.
func nameInto(at, parts int) string {
	for i := 0; ; i++ {
		if s := fmt.Sprintf("cat/%d", i); partRight(s, parts) == at {
			return s
		}
	}
}

func primariesRight(r impl.Ring, s string) []int {
	if len(r.Parts) == 0 {
		return nil
	}
	return r.Parts[partRight(s, len(r.Parts))].Devs
}

// handoffsRight is the document's own rule, written apart from the program's way: all others, sorted by whether a primary is in their zone.
func handoffsRight(r impl.Ring, l []impl.Dev, s string) []int {
	primaries, others := primariesRight(r, s), slices.Clone(l)
	others = slices.DeleteFunc(others, func(d impl.Dev) bool { return slices.Contains(primaries, d.Id) })
	late := func(d impl.Dev) int {
		for _, id := range primaries {
			if i := slices.IndexFunc(l, func(x impl.Dev) bool { return x.Id == id }); i >= 0 && l[i].Zone == d.Zone {
				return 1
			}
		}
		return 0
	}
	slices.SortStableFunc(others, func(a, b impl.Dev) int { return late(a) - late(b) })
	ids := []int{}
	for _, d := range others {
		ids = append(ids, d.Id)
	}
	return ids
}

// edgeIds holds Ids of devices, and what is none.
func edgeIds() []int {
	return append(idsTo(24), -1, -2, 99, 255, 256, 1<<32, 1<<32+2, math.MaxInt, math.MinInt)
}

// holdPlaces asks for all that the chapter says of one name.
func holdPlaces(t *testing.T, r impl.Ring, l []impl.Dev, s string) {
	t.Helper()
	kept, keptDevs := copyRing(r), slices.Clone(l)
	p, h := impl.Primaries(r, s), impl.Handoffs(r, l, s)
	if want := primariesRight(r, s); !slices.Equal(p, want) {
		t.Fatalf("%q of %v: primaries %v, not %v", s, r, p, want)
	}
	if want := handoffsRight(r, l, s); !slices.Equal(h, want) {
		t.Fatalf("%q of %v and %v: handoffs %v, not %v", s, r, l, h, want)
	}
	for _, id := range append(edgeIds(), p...) {
		if is := impl.IsPrimary(r, s, id); is != slices.Contains(primariesRight(r, s), id) {
			t.Fatalf("%q of %v: %d is a primary: %v", s, r, id, is)
		}
	}
	if !sameRing(r, kept) || !slices.Equal(l, keptDevs) {
		t.Fatalf("written into: %v %v, were %v %v", r, l, kept, keptDevs)
	}
}

// oneOrTheOther asks for the promise: each device once, as a primary or as a handoff, and IsPrimary tells which.
func oneOrTheOther(t *testing.T, r impl.Ring, l []impl.Dev, s string) {
	t.Helper()
	p, h := impl.Primaries(r, s), impl.Handoffs(r, l, s)
	if len(p) != r.Reps || len(p)+len(h) != len(l) {
		t.Fatalf("%q of %v and %v: %v and %v", s, r, l, p, h)
	}
	all := slices.Sorted(slices.Values(slices.Concat(p, h)))
	for i, d := range l {
		if all[i] != d.Id {
			t.Fatalf("%q of %v and %v: %v and %v", s, r, l, p, h)
		}
		if is := impl.IsPrimary(r, s, d.Id); is != slices.Contains(p, d.Id) || is == slices.Contains(h, d.Id) {
			t.Fatalf("%q of %v and %v: %d is a primary: %v, of %v and %v", s, r, l, d.Id, is, p, h)
		}
	}
}

func TestAllDevicesArePrimariesOrHandoffs(t *testing.T) {
	asked := 0
	for seed := range uint32(400) {
		l := rightDevs(seed)
		for reps := 1; reps <= min(5, len(l)); reps++ {
			r, ok := impl.Build(l, []int{1, 2, 7, 8, 63, 64}[seed%6], reps)
			if !ok || !ringRight(r, l) {
				t.Fatal("is right:", r, l)
			}
			for i := range 12 {
				s := fmt.Sprintf("dog/%d-%d", seed, i)
				oneOrTheOther(t, r, l, s)
				holdPlaces(t, r, l, s)
				asked++
			}
		}
	}
	if asked < 10000 {
		t.Error("hardly any is asked:", asked)
	}
}

// A ring that is right need not be one that Build tells: its Parts need not be spread.
func TestPlacesOfMixedRings(t *testing.T) {
	right := 0
	for seed := range uint32(3000) {
		l := rightDevs(seed)
		if seed%8 == 7 {
			l = mixedDevs(seed)
		}
		r := mixedRing(seed, l)
		for _, s := range []string{"", "a", "list", fmt.Sprint("x", seed), "\xff\x00", strings.Repeat("long", 20)} {
			holdPlaces(t, r, l, s)
			if ringRight(r, l) {
				oneOrTheOther(t, r, l, s)
				right++
			}
		}
	}
	if right < 500 {
		t.Error("hardly any is right:", right)
	}
}

func TestPlacesBehindAMove(t *testing.T) {
	for seed := range uint32(300) {
		l := rightDevs(seed)
		r := movingRing(seed, l)
		for range 3 {
			for i := range 8 {
				holdPlaces(t, r, l, fmt.Sprintf("m/%d", i))
			}
			r, _ = impl.Rebalance(r, l)
		}
	}
}

func TestPlacesOfEachPart(t *testing.T) {
	for _, n := range []int{1, 2, 3, 7, 8, 63, 64, 65, 200} {
		r, l := impl.Ring{Reps: 2}, devsFrom(0, 12)
		for at := range n {
			r.Parts = append(r.Parts, part(at, 1000+at))
		}
		for at := range n {
			s := nameInto(at, n)
			if p := impl.Primaries(r, s); !slices.Equal(p, []int{at, 1000 + at}) {
				t.Errorf("%q falls into %d of %d: primaries %v", s, at, n, p)
			}
			for id := range n {
				if is := impl.IsPrimary(r, s, id); is != (id == at) || impl.IsPrimary(r, s, 1000+id) != is {
					t.Errorf("%q falls into %d of %d: %d is a primary: %v", s, at, n, id, is)
				}
			}
			holdPlaces(t, r, l, s)
		}
	}
}

func TestNamesInTheFirstPartAndInTheLast(t *testing.T) {
	for _, x := range []struct {
		s         string
		parts, at int
	}{
		// Of 64 Parts the lowest six bits of the sum count.
		{"foobar", 64, 40}, {"foobar", 8, 0}, {"a", 64, 44}, {"", 64, 5}, {"a", 1, 0}, {"list", 1, 0}, {"", 1, 0},
		{nameInto(0, 64), 64, 0}, {nameInto(63, 64), 64, 63}, {nameInto(0, 2), 2, 0}, {nameInto(1, 2), 2, 1},
	} {
		r := manyParts(x.parts, 2)
		r.Parts[x.at] = part(4, 3)
		if p, h := impl.Primaries(r, x.s), impl.Handoffs(r, zonedDevs(), x.s); !slices.Equal(p, []int{4, 3}) || !slices.Equal(h, []int{0, 1, 2}) {
			t.Errorf("%q falls into %d of %d: %v and %v", x.s, x.at, x.parts, p, h)
		}
		if !impl.IsPrimary(r, x.s, 4) || !impl.IsPrimary(r, x.s, 3) || impl.IsPrimary(r, x.s, 0) {
			t.Errorf("%q falls into %d of %d: 4, 3 and 0 are primaries: %v, %v, %v", x.s, x.at, x.parts, impl.IsPrimary(r, x.s, 4), impl.IsPrimary(r, x.s, 3), impl.IsPrimary(r, x.s, 0))
		}
		r.Parts[x.at] = part()
		if p, h := impl.Primaries(r, x.s), impl.Handoffs(r, zonedDevs(), x.s); len(p) != 0 || !slices.Equal(h, []int{0, 1, 2, 3, 4}) {
			t.Errorf("%q falls into %d of %d, which has none: %v and %v", x.s, x.at, x.parts, p, h)
		}
	}
}

func TestPlacesOfARingWithoutParts(t *testing.T) {
	whole := manyParts(2, 3)
	for _, r := range []impl.Ring{{}, {Reps: 3}, {Reps: -1}, {Reps: 99, Parts: []impl.Part{}}, {Reps: 3, Parts: whole.Parts[:0]}} {
		for _, s := range texts() {
			if p := impl.Primaries(r, s); len(p) != 0 {
				t.Errorf("%q: primaries %v", s, p)
			}
			for _, l := range [][]impl.Dev{nil, {}, fiveDevs(), fiveDevs()[4:], alikeDevs(12, 1), devsFrom(0, 13), {dev(7, 1, 1), dev(3, 0, 1), dev(-1, 99, 0), dev(5, 1, 1)}} {
				want := []int{}
				for _, d := range l {
					want = append(want, d.Id)
				}
				if h := impl.Handoffs(r, l, s); !slices.Equal(h, want) {
					t.Errorf("%q and %v: handoffs %v", s, l, h)
				}
			}
			for _, id := range edgeIds() {
				if impl.IsPrimary(r, s, id) {
					t.Errorf("%q: %d is a primary", s, id)
				}
			}
		}
	}
}

type placeCase struct {
	why      string
	ids      []int
	l        []impl.Dev
	handoffs []int
}

// checkPlaces asks for each case in a ring of one Part, and in the last Part of several.
func checkPlaces(t *testing.T, cases []placeCase) {
	t.Helper()
	for _, x := range cases {
		for _, n := range []int{1, 3, 64} {
			r := manyParts(n, 3)
			r.Parts[n-1] = part(x.ids...)
			s := nameInto(n-1, n)
			if p := impl.Primaries(r, s); !slices.Equal(p, x.ids) {
				t.Errorf("%s: primaries %v, not %v", x.why, p, x.ids)
			}
			if h := impl.Handoffs(r, x.l, s); !slices.Equal(h, x.handoffs) {
				t.Errorf("%s: handoffs %v, not %v", x.why, h, x.handoffs)
			}
			holdPlaces(t, r, x.l, s)
		}
	}
}

func TestPlacesByTheIdsOfAPart(t *testing.T) {
	l := zonedDevs()
	checkPlaces(t, []placeCase{
		{"none", nil, l, []int{0, 1, 2, 3, 4}},
		{"one", []int{2}, l, []int{0, 1, 4, 3}},
		{"one, the first", []int{0}, l, []int{2, 3, 4, 1}},
		{"one, the last", []int{4}, l, []int{0, 1, 2, 3}},
		{"two of a zone", []int{1, 0}, l, []int{2, 3, 4}},
		{"two of two zones", []int{3, 0}, l, []int{4, 1, 2}},
		{"three", []int{4, 2, 0}, l, []int{1, 3}},
		{"all of two zones", []int{3, 1, 2, 0}, l, []int{4}},
		{"all but one", []int{4, 3, 1, 0}, l, []int{2}},
		{"all, so no handoffs", []int{0, 1, 2, 3, 4}, l, nil},
		{"all, in another order", []int{3, 1, 4, 0, 2}, l, nil},
		{"five of twelve", []int{0, 3, 6, 9, 11}, alikeDevs(12, 1), []int{1, 2, 4, 5, 7, 8, 10}},
		{"more than a right Part has", []int{5, 4, 3, 2, 1, 0}, append(zonedDevs(), dev(5, 3, 1), dev(6, 0, 1)), []int{6}},
		{"of no device", []int{9}, l, []int{0, 1, 2, 3, 4}},
		{"of no device, and past all Ids", []int{-1, 21, math.MaxInt, math.MinInt, 1<<32 + 2}, l, []int{0, 1, 2, 3, 4}},
		{"of no device, and of one", []int{9, 2, 7}, l, []int{0, 1, 4, 3}},
		{"an Id twice", []int{2, 2}, l, []int{0, 1, 4, 3}},
		{"an Id twice, with another between", []int{4, 1, 4}, l, []int{2, 3, 0}},
		{"an Id that no device has, twice", []int{9, 9, 0}, l, []int{2, 3, 4, 1}},
		{"an Id five times", []int{0, 0, 0, 0, 0}, l, []int{2, 3, 4, 1}},
	})
}

func TestTheOrderOfHandoffs(t *testing.T) {
	apart := []impl.Dev{dev(0, 5, 1), dev(3, 4, 1), dev(6, 3, 1), dev(9, 2, 1), dev(20, 20, 1)}
	between := []impl.Dev{dev(0, 1, 1), dev(1, 2, 1), dev(2, 1, 1), dev(3, 0, 1), dev(4, 1, 1), dev(5, 2, 1), dev(6, 20, 1)}
	checkPlaces(t, []placeCase{
		{"all of one zone", []int{2}, alikeDevs(5, 1), []int{0, 1, 3, 4}},
		{"all of one zone, two primaries", []int{4, 0}, alikeDevs(5, 1), []int{1, 2, 3}},
		{"each of a zone of its own", []int{6}, apart, []int{0, 3, 9, 20}},
		{"each of a zone of its own, two primaries", []int{20, 0}, apart, []int{3, 6, 9}},
		{"a zone that has a primary, and others", []int{0}, between, []int{1, 3, 5, 6, 2, 4}},
		{"a primary in the midst of its zone", []int{2}, between, []int{1, 3, 5, 6, 0, 4}},
		{"two zones that have primaries", []int{5, 4}, between, []int{3, 6, 0, 1, 2}},
		{"two zones that have primaries, the list's order and not theirs", []int{4, 5}, between, []int{3, 6, 0, 1, 2}},
		{"all zones but one", []int{0, 1, 3}, between, []int{6, 2, 4, 5}},
		{"all zones, so the rest alone", []int{6, 3, 1, 0}, between, []int{2, 4, 5}},
		{"the zone 0 has a primary", []int{3}, between, []int{0, 1, 2, 4, 5, 6}},
		{"the zone of a device that is gone is no primary's", []int{7}, append(slices.Clone(between), dev(8, 3, 1)), []int{0, 1, 2, 3, 4, 5, 6, 8}},
		{"Weights count for nothing", []int{0}, []impl.Dev{dev(0, 0, 1000), dev(1, 0, 1000), dev(2, 1, 1), dev(3, 0, 1), dev(4, 2, 1000), dev(5, 1, 500)}, []int{2, 4, 5, 1, 3}},
		{"the zone counts, not the Id", []int{1}, []impl.Dev{dev(0, 1, 1), dev(1, 0, 1), dev(2, 2, 1), dev(3, 0, 1)}, []int{0, 2, 3}},
		{"twelve devices", []int{3, 7}, devsFrom(0, 12), []int{2, 5, 8, 11, 0, 1, 4, 6, 9, 10}},
		{"no devices", []int{3, 7}, nil, nil},
		{"no devices, an empty list", []int{3, 7}, []impl.Dev{}, nil},
		{"one device, a primary", []int{3, 7}, []impl.Dev{dev(7, 0, 1)}, nil},
		{"one device, a handoff", []int{3, 7}, []impl.Dev{dev(5, 0, 1)}, []int{5}},
	})
}

// The chapter asks for no list that is right, so each is taken as it stands; of several of one Id the first tells the zone.
func TestHandoffsOfDevsThatAreNotRight(t *testing.T) {
	checkPlaces(t, []placeCase{
		{"not ascending", []int{3}, []impl.Dev{dev(9, 0, 1), dev(3, 0, 1), dev(5, 1, 1), dev(1, 0, 1), dev(4, 1, 1)}, []int{5, 4, 9, 1}},
		{"Ids, zones and Weights that are none", []int{-1}, []impl.Dev{dev(-1, -3, 0), dev(30, 99, -1), dev(21, -3, 2000), dev(math.MinInt, math.MaxInt, 1), dev(2, math.MinInt, math.MaxInt)}, []int{30, math.MinInt, 2, 21}},
		{"more than twelve", []int{13, 0}, alikeDevs(15, 1), []int{1, 2, 3, 4, 5, 6, 7, 8, 9, 10, 11, 12, 14}},
		{"more than twelve, of many zones", []int{0}, devsFrom(0, 24), []int{1, 2, 4, 5, 7, 8, 10, 11, 13, 14, 16, 17, 19, 20, 22, 23, 3, 6, 9, 12, 15, 18, 21}},
		{"a handoff twice", []int{2}, []impl.Dev{dev(2, 0, 1), dev(5, 0, 1), dev(5, 1, 1), dev(6, 1, 1)}, []int{5, 6, 5}},
		{"a primary twice", []int{2}, []impl.Dev{dev(2, 0, 1), dev(2, 1, 1), dev(5, 0, 1), dev(6, 1, 1)}, []int{6, 5}},
		{"the zero device", []int{0}, []impl.Dev{{}, {Id: 1}, {Id: 2, Zone: 1}}, []int{2, 1}},
	})
	// Many more than any device list may have.
	l := devsFrom(0, 5000)
	holdPlaces(t, ring(2, []int{4999, 17}), l, "a")
}

func TestIsPrimary(t *testing.T) {
	r := ring(3, []int{0, 9, 2}, []int{20, 2, 2}, []int{}, []int{-1, math.MaxInt, 1<<32 + 2})
	for at, want := range [][]int{{0, 2, 9}, {2, 20}, nil, {-1, math.MaxInt, 1<<32 + 2}} {
		s := nameInto(at, 4)
		for _, id := range edgeIds() {
			if is := impl.IsPrimary(r, s, id); is != slices.Contains(want, id) {
				t.Errorf("%q, which falls into %v: %d is a primary: %v", s, r.Parts[at].Devs, id, is)
			}
		}
	}
}

// A ring's Reps tells nothing of places, nor does a text that is no name.
func TestPlacesOfWhatIsNotRight(t *testing.T) {
	for _, s := range texts() {
		for _, reps := range []int{0, -1, 1, 3, 6, math.MinInt, math.MaxInt} {
			for _, n := range []int{1, 5, 64, 65, 300} {
				r := manyParts(n, 3)
				for i := range r.Parts {
					r.Parts[i].Devs[i%3] = i % 5
				}
				r.Reps = reps
				holdPlaces(t, r, zonedDevs(), s)
			}
		}
	}
	// What stands behind a length is no Part, no Id and no device.
	ids, whole := []int{2, 0, 4, 1}, manyParts(2, 3)
	cut := impl.Ring{Reps: 3, Parts: []impl.Part{{Devs: ids[:1]}, whole.Parts[1]}[:1]}
	for _, s := range texts() {
		p, h := impl.Primaries(cut, s), impl.Handoffs(cut, zonedDevs()[:4], s)
		if !slices.Equal(p, []int{2}) || !slices.Equal(h, []int{0, 1, 3}) || impl.IsPrimary(cut, s, 0) || !impl.IsPrimary(cut, s, 2) {
			t.Errorf("%q, behind the length: %v and %v", s, p, h)
		}
	}
}

func TestPlacesLeaveArgumentsAlone(t *testing.T) {
	room := append(zonedDevs(), dev(7, 9, 1), dev(8, 0, 1))
	ids := []int{0, 2, 9, 1, 3, 77, 88, 99}
	// The Parts lie in one piece of memory, two of them on top of each other, with room behind.
	parts := []impl.Part{{Devs: ids[:3]}, {Devs: ids[1:4]}, {Devs: ids[2:5]}, {Devs: ids[5:8]}, {Devs: ids[:0]}}
	keptRoom, keptIds, keptParts := slices.Clone(room), slices.Clone(ids), copyParts(parts)
	for n := range 6 {
		r := impl.Ring{Reps: 3, Parts: parts[:n]}
		for devs := range 8 {
			for _, s := range texts() {
				impl.Primaries(r, s)
				impl.Handoffs(r, room[:devs], s)
				impl.IsPrimary(r, s, 9)
				if !slices.Equal(room, keptRoom) || !slices.Equal(ids, keptIds) || !sameRing(impl.Ring{Parts: parts}, impl.Ring{Parts: keptParts}) {
					t.Fatal("written into:", room, ids, parts)
				}
			}
		}
	}
}

// overwrite writes into all memory of a list, and the room behind it.
func overwrite(ids []int) {
	for i := range ids[:cap(ids)] {
		ids[:cap(ids)][i] = -1000 - i
	}
}

func TestPlacesShareNoMemory(t *testing.T) {
	l := zonedDevs()
	for _, r := range []impl.Ring{ring(2, []int{2, 0}), ring(2, []int{4, 3}, []int{4, 3}, []int{4, 3}), ring(5, []int{4, 3, 2, 1, 0}), ring(1, []int{9}), ring(0, nil), {}} {
		kept, wantP, wantH := copyRing(r), slices.Clone(primariesRight(r, "x")), handoffsRight(r, l, "x")
		p, h := impl.Primaries(r, "x"), impl.Handoffs(r, l, "x")
		againP, againH := impl.Primaries(r, "x"), impl.Handoffs(r, l, "x")
		overwrite(p)
		if !slices.Equal(h, wantH) {
			t.Errorf("%v: the primaries share memory with the handoffs: %v", r, h)
		}
		overwrite(h)
		if !sameRing(r, kept) || !slices.Equal(l, zonedDevs()) {
			t.Errorf("shared with an argument: %v %v", r, l)
		}
		if !slices.Equal(againP, wantP) || !slices.Equal(againH, wantH) {
			t.Errorf("%v: shared with another answer: %v, %v", kept, againP, againH)
		}
		holdPlaces(t, kept, zonedDevs(), "x")
		// An answer stays as it was, whatever becomes of what was handed in.
		for i := range r.Parts {
			overwrite(r.Parts[i].Devs)
		}
		devs := zonedDevs()
		lastH := impl.Handoffs(kept, devs, "x")
		devs[0], devs[4] = dev(19, 9, 9), dev(20, 9, 9)
		if !slices.Equal(againP, wantP) || !slices.Equal(againH, wantH) || !slices.Equal(lastH, wantH) {
			t.Errorf("%v: an answer is changed with its argument: %v, %v, %v", kept, againP, againH, lastH)
		}
	}
}

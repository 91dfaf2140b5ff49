package tests

import (
	"math"
	"slices"
	"testing"

	"loop.example/g00241/impl"
)

// sameRing takes an empty list and none for the same, as the document does.
func sameRing(a, b impl.Ring) bool {
	return a.Reps == b.Reps && slices.EqualFunc(a.Parts, b.Parts, func(p, q impl.Part) bool { return slices.Equal(p.Devs, q.Devs) })
}

// alikeDevs makes n devices of one zone and one Weight, with Ids from 0 on.
func alikeDevs(n, weight int) []impl.Dev {
	l := []impl.Dev{}
	for id := range n {
		l = append(l, dev(id, 4, weight))
	}
	return l
}

// zonedDevs stand in three zones, all with one weight.
func zonedDevs() []impl.Dev {
	return []impl.Dev{dev(0, 0, 1), dev(1, 0, 1), dev(2, 1, 1), dev(3, 1, 1), dev(4, 2, 1)}
}

func movableRight(r impl.Ring, l []impl.Dev) bool {
	for _, p := range r.Parts {
		if len(p.Devs) != r.Reps || len(slices.Compact(slices.Sorted(slices.Values(p.Devs)))) != r.Reps {
			return false
		}
	}
	return devsRight(l) && r.Reps >= 1 && r.Reps <= 5 && r.Reps <= len(l) && len(r.Parts) >= 1 && len(r.Parts) <= 64
}

// rebalanceRight is the document's own rule, written apart from the program's way: a Part at a time, all its devices asked by a map.
func rebalanceRight(r impl.Ring, l []impl.Dev) (impl.Ring, int) {
	x := copyRing(r)
	if !movableRight(r, l) {
		return x, -1
	}
	at := map[int]impl.Dev{}
	for _, d := range l {
		at[d.Id] = d
	}
	changed := 0
parts:
	for _, p := range x.Parts {
		for i, id := range p.Devs {
			if _, there := at[id]; !there {
				rest := part(append(slices.Clone(p.Devs[:i]), p.Devs[i+1:]...)...)
				p.Devs[i] = bestRight(x, rest, l)
				changed++
				continue parts
			}
		}
		best := bestRight(x, p, l)
		for i, id := range p.Devs {
			if best >= 0 && at[best].Zone == at[id].Zone && loadRight(x, best)+2 <= loadRight(x, id) {
				p.Devs[i] = best
				changed++
				continue parts
			}
		}
	}
	return x, changed
}

func movedRight(a, b impl.Part) int {
	n := 0
	for _, id := range a.Devs {
		if !slices.Contains(b.Devs, id) {
			n++
		}
	}
	return n
}

// movingRing makes a ring that may be moved, the same in every run of a seed: some devices have far more than others, some are gone.
func movingRing(seed uint32, l []impl.Dev) impl.Ring {
	b := someBytes(400, seed+4242)
	gone := []int{-1, 21, 99, math.MaxInt, math.MinInt, 19, 20}[:int(b[0])%8]
	r := impl.Ring{Reps: 1 + int(b[1])%min(5, len(l))}
	few := max(r.Reps, 1+int(b[2])%len(l))
	at := 3
	for range 1 + int(b[3])%20 {
		ids := []int{}
		for len(ids) < r.Reps {
			at++
			id := l[int(b[at%400])%few].Id
			if len(gone) > 0 && b[(at+7)%400]%5 == 0 {
				id = gone[int(b[at%400])%len(gone)]
			}
			for slices.Contains(ids, id) {
				id = (id&31 + 1) % 24
			}
			ids = append(ids, id)
		}
		r.Parts = append(r.Parts, part(ids...))
	}
	return r
}

// holdMove asks for all that the chapter says of one call, and tells how many were changed.
func holdMove(t *testing.T, r impl.Ring, l []impl.Dev) (impl.Ring, int) {
	t.Helper()
	kept, keptDevs := copyRing(r), slices.Clone(l)
	x, n := impl.Rebalance(r, l)
	want, wantN := rebalanceRight(r, l)
	if n != wantN || !sameRing(x, want) {
		t.Fatalf("%v of %v: %v and %d, not %v and %d", r, l, x, n, want, wantN)
	}
	if !sameRing(r, kept) || !slices.Equal(l, keptDevs) {
		t.Fatalf("written into: %v %v, were %v %v", r, l, kept, keptDevs)
	}
	if n >= 0 {
		oneMoved(t, r, x, n)
	} else if impl.Moved(r, x) != 0 {
		t.Fatalf("%v of %v is refused, and yet %d moved", r, l, impl.Moved(r, x))
	}
	if ringRight(r, l) && (!ringRight(x, l) || !impl.RingOk(x, l)) {
		t.Fatalf("%v of %v was right, %v is not", r, l, x)
	}
	return x, n
}

// oneMoved is the promise: no Part has more than one moved, and those that have one are as many as told.
func oneMoved(t *testing.T, r, x impl.Ring, n int) {
	t.Helper()
	if x.Reps != r.Reps || len(x.Parts) != len(r.Parts) {
		t.Fatalf("%v became %v", r, x)
	}
	all := 0
	for i, p := range x.Parts {
		places := 0
		for k, id := range p.Devs {
			if slices.Contains(p.Devs[:k], id) {
				t.Fatalf("%v became %v: the Part %d has %d twice", r, x, i, id)
			}
			if id != r.Parts[i].Devs[k] {
				places++
			}
		}
		moved := movedRight(r.Parts[i], p)
		if len(p.Devs) != r.Reps || moved > 1 || places != moved {
			t.Fatalf("%v became %v: of the Part %d %d are moved", r, x, i, moved)
		}
		all += moved
	}
	if all != n || impl.Moved(r, x) != n || impl.Moved(x, r) != n {
		t.Fatalf("%v became %v: %d moved, %d told, %d and %d counted", r, x, all, n, impl.Moved(r, x), impl.Moved(x, r))
	}
}

func TestNoPartHasMoreThanOneMoved(t *testing.T) {
	told := map[int]int{}
	for seed := range uint32(3000) {
		l := rightDevs(seed)
		r := movingRing(seed, l)
		for range 4 {
			x, n := holdMove(t, r, l)
			if n < 0 {
				t.Fatalf("%v of %v is refused", r, l)
			}
			told[n]++
			r = x
		}
	}
	if len(told) < 10 || told[0] < 100 {
		t.Error("hardly any are told:", told)
	}
}

func TestRebalanceOfMixedRings(t *testing.T) {
	refused := 0
	for seed := range uint32(4000) {
		l := rightDevs(seed)
		if seed%8 == 7 {
			l = mixedDevs(seed)
		}
		if _, n := holdMove(t, mixedRing(seed, l), l); n == -1 {
			refused++
		}
	}
	if refused < 500 || refused > 3900 {
		t.Error("hardly any are refused, or taken:", refused)
	}
}

// The devices of a built ring change: some go, some come, in other zones and with other weights.
func TestRebalanceBehindOtherDevices(t *testing.T) {
	for seed := range uint32(800) {
		l, other := rightDevs(seed), rightDevs(seed+50000)
		r, ok := impl.Build(l, 1+int(seed*29%64), 1+int(seed%5))
		if !ok {
			continue
		}
		x, n := holdMove(t, r, other)
		if n >= 0 {
			holdMove(t, x, other)
		}
		y, n := holdMove(t, r, l)
		if n < 0 || !impl.RingOk(y, l) {
			t.Fatalf("%v of %v: %v, %d", r, l, y, n)
		}
	}
}

func TestEvenRingsStayAsTheyAre(t *testing.T) {
	for n := 1; n <= 12; n++ {
		for _, weight := range []int{1, 7, 1000} {
			for reps := 1; reps <= min(n, 5); reps++ {
				for _, parts := range []int{1, 2, 7, 63, 64} {
					l := alikeDevs(n, weight)
					r, _ := impl.Build(l, parts, reps)
					if x, changed := holdMove(t, r, l); changed != 0 || !sameRing(x, r) || impl.Moved(r, x) != 0 {
						t.Fatalf("%d devices of %d, %d parts, %d reps: %d changed", n, weight, parts, reps, changed)
					}
				}
			}
		}
	}
}

// Each call brings home one device of each Part, so behind Reps of them none is gone.
func TestAllGoneComeHomeOneByOne(t *testing.T) {
	for reps := 1; reps <= 5; reps++ {
		l := devsFrom(0, 7)
		r := impl.Ring{Reps: reps}
		for range 6 {
			r.Parts = append(r.Parts, part([]int{30, 31, 32, 33, 34}[:reps]...))
		}
		for call := 1; call <= reps; call++ {
			if impl.RingOk(r, l) {
				t.Fatalf("%d replicas: right already ahead of call %d", reps, call)
			}
			x, n := holdMove(t, r, l)
			if n != 6 {
				t.Fatalf("%d replicas: the call %d changed %d", reps, call, n)
			}
			r = x
		}
		if !impl.RingOk(r, l) || !ringRight(r, l) {
			t.Errorf("%d replicas: %v", reps, r)
		}
	}
}

type moveCase struct {
	why   string
	l     []impl.Dev
	reps  int
	parts [][]int
	want  [][]int
	n     int
}

func checkMoves(t *testing.T, cases []moveCase) {
	t.Helper()
	for _, c := range cases {
		r := ring(c.reps, c.parts...)
		x, n := impl.Rebalance(r, c.l)
		if n != c.n || !sameRing(x, ring(c.reps, c.want...)) {
			t.Errorf("%s: %v and %d, not %v and %d", c.why, x, n, c.want, c.n)
		}
		holdMove(t, r, c.l)
	}
}

func TestDevicesThatAreGone(t *testing.T) {
	l, three := zonedDevs(), alikeDevs(3, 1)
	checkMoves(t, []moveCase{
		{"one at the first place", l, 3, [][]int{{7, 0, 2}}, [][]int{{4, 0, 2}}, 1},
		{"one in the middle", l, 3, [][]int{{0, 7, 2}}, [][]int{{0, 4, 2}}, 1},
		{"one at the last place", l, 3, [][]int{{0, 2, 7}}, [][]int{{0, 2, 4}}, 1},
		{"no new zone", l, 4, [][]int{{7, 0, 2, 4}}, [][]int{{1, 0, 2, 4}}, 1},
		{"two at the first places", l, 3, [][]int{{7, 8, 0}}, [][]int{{2, 8, 0}}, 1},
		{"two at the last places", l, 3, [][]int{{0, 8, 7}}, [][]int{{0, 2, 7}}, 1},
		{"two around one", l, 3, [][]int{{8, 0, 7}}, [][]int{{2, 0, 7}}, 1},
		{"the second of two", l, 3, [][]int{{2, 8, 0}}, [][]int{{2, 4, 0}}, 1},
		{"all of three", l, 3, [][]int{{9, 7, 8}}, [][]int{{0, 7, 8}}, 1},
		{"all of one", l, 1, [][]int{{9}}, [][]int{{0}}, 1},
		{"all of five", l, 5, [][]int{{9, 8, 7, 6, 5}}, [][]int{{0, 8, 7, 6, 5}}, 1},
		{"Ids that are none", l, 3, [][]int{{-1, math.MaxInt, 21}, {0, math.MinInt, 2}, {2, 1, -1}}, [][]int{{3, math.MaxInt, 21}, {0, 4, 2}, {2, 1, 4}}, 3},
		{"as many devices as replicas", l[:3], 3, [][]int{{2, 5, 0}}, [][]int{{2, 1, 0}}, 1},
		{"one device", []impl.Dev{dev(20, 20, 1000)}, 1, [][]int{{0}, {20}, {5}}, [][]int{{20}, {20}, {20}}, 2},
		{"by weights", []impl.Dev{dev(0, 0, 1), dev(1, 0, 3)}, 1, [][]int{{9}, {9}, {9}, {9}}, [][]int{{1}, {1}, {0}, {1}}, 4},
		{"a new zone ahead of loads", []impl.Dev{dev(0, 0, 9), dev(1, 0, 9), dev(2, 1, 1)}, 2, [][]int{{0, 9}, {2, 9}, {2, 9}}, [][]int{{0, 2}, {2, 1}, {2, 0}}, 3},
		{"a zone that only the gone one may have had", []impl.Dev{dev(0, 0, 1), dev(1, 0, 1), dev(2, 5, 1)}, 2, [][]int{{0, 1}, {2, 3}}, [][]int{{0, 1}, {2, 0}}, 1},
		{"gone ones ahead of heavy ones", three, 2, [][]int{{0, 9}, {0, 1}, {0, 1}, {0, 1}}, [][]int{{0, 2}, {2, 1}, {0, 1}, {0, 1}}, 2},
		{"the Parts without gone ones are asked, too", three, 1, [][]int{{0}, {0}, {9}, {0}}, [][]int{{1}, {2}, {0}, {0}}, 3},
	})
}

func TestChangesAheadCountBehind(t *testing.T) {
	two, l := alikeDevs(2, 1), zonedDevs()
	checkMoves(t, []moveCase{
		{"gone", two, 1, [][]int{{9}, {9}, {9}, {9}, {9}}, [][]int{{0}, {1}, {0}, {1}, {0}}, 5},
		{"gone, with loads behind", two, 1, [][]int{{9}, {0}, {9}, {0}}, [][]int{{1}, {0}, {1}, {0}}, 2},
		{"heavy, up to even loads", two, 1, [][]int{{0}, {0}, {0}, {0}}, [][]int{{1}, {1}, {0}, {0}}, 2},
		{"heavy, up to one apart", two, 1, [][]int{{0}, {0}, {0}, {0}, {0}}, [][]int{{1}, {1}, {0}, {0}, {0}}, 2},
		{"heavy at the end", two, 1, [][]int{{1}, {0}, {0}, {0}}, [][]int{{1}, {1}, {0}, {0}}, 1},
		{"heavy by a gone one ahead", two, 1, [][]int{{9}, {1}, {1}, {1}, {9}}, [][]int{{0}, {0}, {1}, {1}, {0}}, 3},
		{"as many zones for each", l, 3, [][]int{{9, 0, 2}, {0, 2, 9}, {9, 0, 4}, {0, 1, 9}}, [][]int{{4, 0, 2}, {0, 2, 4}, {3, 0, 4}, {0, 1, 3}}, 4},
	})
}

func TestHeavyDevicesOfTheSameZone(t *testing.T) {
	two, three := alikeDevs(2, 1), alikeDevs(3, 1)
	apart := []impl.Dev{dev(0, 0, 1), dev(1, 1, 1)}
	mixed := []impl.Dev{dev(0, 0, 1), dev(1, 0, 1), dev(2, 1, 1)}
	checkMoves(t, []moveCase{
		{"as much", two, 1, [][]int{{0}, {1}}, [][]int{{0}, {1}}, 0},
		{"one below", two, 1, [][]int{{0}}, [][]int{{0}}, 0},
		{"one below, with more", two, 1, [][]int{{0}, {1}, {0}}, [][]int{{0}, {1}, {0}}, 0},
		{"two below", two, 1, [][]int{{0}, {0}}, [][]int{{1}, {0}}, 1},
		{"two below, with more", two, 1, [][]int{{1}, {0}, {0}, {0}}, [][]int{{1}, {1}, {0}, {0}}, 1},
		{"three below", two, 1, [][]int{{1}, {1}, {1}}, [][]int{{0}, {1}, {1}}, 1},
		{"one below in another zone", apart, 1, [][]int{{0}}, [][]int{{0}}, 0},
		{"two below in another zone", apart, 1, [][]int{{0}, {0}}, [][]int{{0}, {0}}, 0},
		{"far below in another zone", apart, 1, [][]int{{0}, {0}, {0}, {0}, {0}}, [][]int{{0}, {0}, {0}, {0}, {0}}, 0},
		{"the Best is in a new zone, another one is in the same", mixed, 1, [][]int{{0}, {0}, {0}, {0}}, [][]int{{0}, {0}, {0}, {0}}, 0},
		{"no new zone is left", mixed, 2, [][]int{{0, 2}, {0, 2}, {0, 2}, {0, 2}}, [][]int{{1, 2}, {1, 2}, {0, 2}, {0, 2}}, 2},
		{"the first is of another zone", mixed, 2, [][]int{{2, 0}, {2, 0}}, [][]int{{2, 1}, {2, 0}}, 1},
		{"one below in the same zone, far below in another", mixed, 2, [][]int{{2, 0}}, [][]int{{2, 0}}, 0},
		{"several: the first one", three, 2, [][]int{{0, 1}, {1, 0}}, [][]int{{2, 1}, {1, 0}}, 1},
		{"several: the first one, not the least Id", three, 2, [][]int{{1, 0}, {1, 0}, {1, 0}}, [][]int{{2, 0}, {1, 2}, {1, 0}}, 2},
		{"the first one, not the heaviest", three, 2, [][]int{{0, 1}, {0, 1}, {1, 2}, {1, 0}, {1, 0}}, [][]int{{2, 1}, {0, 2}, {1, 2}, {1, 0}, {1, 0}}, 2},
		{"the second alone is heavy", three, 2, [][]int{{0, 1}, {0, 1}, {1, 2}}, [][]int{{0, 2}, {0, 1}, {1, 2}}, 1},
		{"no Best at all", two, 2, [][]int{{0, 1}, {1, 0}, {0, 1}}, [][]int{{0, 1}, {1, 0}, {0, 1}}, 0},
		{"no Best of one device", alikeDevs(1, 1), 1, [][]int{{0}, {0}, {0}}, [][]int{{0}, {0}, {0}}, 0},
		{"Ids at the ends", []impl.Dev{dev(0, 20, 1), dev(20, 20, 1)}, 1, [][]int{{20}, {20}, {20}}, [][]int{{0}, {20}, {20}}, 1},
	})
}

// A Weight tells who is Best; how far its load is below is told by loads alone.
func TestLoadsAreHeldAgainstEachOtherWithoutWeights(t *testing.T) {
	l := []impl.Dev{dev(0, 0, 1), dev(1, 0, 1000)}
	checkMoves(t, []moveCase{
		{"a great Weight, one below", l, 1, [][]int{{0}}, [][]int{{0}}, 0},
		{"a great Weight, two below", l, 1, [][]int{{0}, {0}}, [][]int{{1}, {0}}, 1},
		{"a small Weight, two below", l, 1, [][]int{{1}, {1}, {1}, {0}}, [][]int{{0}, {1}, {1}, {0}}, 1},
		{"a small Weight, one below", l, 1, [][]int{{1}, {1}, {0}}, [][]int{{1}, {1}, {0}}, 0},
		{"a great Weight, as much", l, 1, [][]int{{0}, {1}}, [][]int{{0}, {1}}, 0},
		{"the Best has the greater load", []impl.Dev{dev(0, 0, 1), dev(1, 0, 1), dev(2, 0, 1000)}, 1, [][]int{{0}, {0}, {0}, {2}, {2}}, [][]int{{0}, {0}, {0}, {1}, {2}}, 1},
	})
}

// refused asks for r, as it is, and -1.
func refused(t *testing.T, why string, r impl.Ring, l []impl.Dev) {
	t.Helper()
	kept := copyRing(r)
	if x, n := impl.Rebalance(r, l); n != -1 || !sameRing(x, kept) || !sameRing(r, kept) {
		t.Errorf("%s: %v of %v: %v, %d", why, r, l, x, n)
	}
	holdMove(t, r, l)
}

func TestRebalanceByReps(t *testing.T) {
	for n := 1; n <= 12; n++ {
		l := devsFrom(0, n)
		for reps := range 9 {
			r := manyParts(3, reps)
			if reps < 1 || reps > 5 || reps > n {
				refused(t, "Reps", r, l)
			} else if _, told := holdMove(t, r, l); told < 0 {
				t.Errorf("%d devices, %d replicas: refused", n, reps)
			}
		}
	}
	for _, reps := range []int{-1, 0, 1, 2, 4, 5, 6, math.MinInt, math.MaxInt} {
		r := manyParts(3, 3)
		r.Reps = reps
		refused(t, "other Reps than Ids", r, devsFrom(0, 12))
	}
	for _, reps := range []int{0, -1, 6, math.MaxInt} {
		refused(t, "no Ids", impl.Ring{Reps: reps, Parts: []impl.Part{{}, {Devs: []int{}}}}, devsFrom(0, 12))
	}
	// The Ids of a Part may be gone; that there are fewer devices than replicas counts nonetheless.
	refused(t, "one more than there are devices", ring(3, []int{0, 1, 9}), alikeDevs(2, 1))
	refused(t, "one more, all gone", ring(2, []int{8, 9}), alikeDevs(1, 1))
}

func TestRebalanceByHowManyParts(t *testing.T) {
	l := fiveDevs()
	for _, n := range []int{0, 65, 66, 200} {
		for reps := 1; reps <= 5; reps++ {
			refused(t, "Parts", manyParts(n, reps), l)
		}
	}
	for _, n := range []int{1, 2, 63, 64} {
		for reps := 1; reps <= 5; reps++ {
			if _, told := holdMove(t, manyParts(n, reps), l); told < 0 {
				t.Errorf("%d Parts of %d: refused", n, reps)
			}
		}
	}
	gone := manyParts(64, 1)
	gone.Parts[63] = part(9)
	if x, n := impl.Rebalance(gone, alikeDevs(1, 1)); n != 1 || x.Parts[63].Devs[0] != 0 {
		t.Error("the last of 64:", x, n)
	}
	refused(t, "no Parts", impl.Ring{Reps: 1, Parts: []impl.Part{}}, l)
	refused(t, "the zero one", impl.Ring{}, l)
	refused(t, "the zero one of none", impl.Ring{}, nil)
	// What stands behind the length is no Part.
	whole := manyParts(65, 1)
	if x, n := impl.Rebalance(impl.Ring{Reps: 1, Parts: whole.Parts[:1]}, l); n != 0 || len(x.Parts) != 1 {
		t.Error("Parts behind the length:", x, n)
	}
	refused(t, "Parts behind the length", impl.Ring{Reps: 1, Parts: whole.Parts[:0]}, l)
}

func TestRebalanceWithOnePartThatIsNotRight(t *testing.T) {
	l := fiveDevs()
	for _, ids := range [][]int{
		nil, {}, {0}, {0, 1}, {0, 1, 2, 3}, {0, 1, 2, 3, 4}, {0, 1, 2, 9}, {7, 8}, {7, 8, 9, 10}, {0, 1, 2, 3, 4, 5, 6},
		{0, 0, 1}, {0, 1, 0}, {1, 0, 0}, {0, 0, 0}, {9, 9, 0}, {9, 0, 9}, {0, 9, 9}, {-1, -1, -1}, {0, 1, 2, 2}, {math.MaxInt, 0, math.MaxInt},
	} {
		for at := range 4 {
			// The Parts ahead would be changed, and must not be.
			parts := [][]int{{0, 9, 2}, {8, 9, 3}, {4, 1, 0}, {3, 1, 4}}
			parts[at] = ids
			refused(t, "a Part", ring(3, parts...), l)
		}
	}
	if _, n := holdMove(t, ring(3, []int{0, 9, 2}, []int{8, 9, 3}, []int{4, 1, 0}, []int{3, 1, 4}), l); n < 2 {
		t.Error("all Parts are right:", n)
	}
	refused(t, "Ids behind the length", impl.Ring{Reps: 3, Parts: []impl.Part{{Devs: []int{0, 1, 2}[:2]}}}, l)
}

func TestRebalanceOfDevsThatAreNotRight(t *testing.T) {
	for _, l := range [][]impl.Dev{
		nil, {}, fiveDevs()[:0], devsFrom(0, 13), devsFrom(0, 21), {dev(0, 0, 0)}, {dev(0, 0, 1001)}, {dev(0, 21, 1)}, {dev(0, -1, 1)}, {dev(21, 0, 1)}, {dev(-1, 0, 1)},
		{dev(0, 0, 1), dev(0, 1, 1)}, {dev(1, 0, 1), dev(0, 1, 1)}, {dev(0, 0, 1), dev(1, 0, 1), dev(1, 1, 1)}, {dev(0, 0, 1), dev(1, 0, 1), dev(2, 1, 0)}, {dev(0, 0, 1), dev(1, 0, math.MaxInt)},
	} {
		refused(t, "devices", ring(1, []int{0}, []int{0}, []int{0}), l)
		refused(t, "devices", ring(1, []int{9}), l)
		refused(t, "devices", ring(2, []int{0, 1}, []int{7, 8}), l)
		refused(t, "devices", manyParts(65, 6), l)
	}
	// A device behind the length is gone.
	if x, n := impl.Rebalance(ring(1, []int{1}), alikeDevs(2, 1)[:1]); n != 1 || x.Parts[0].Devs[0] != 0 {
		t.Error("devices behind the length:", x, n)
	}
}

func TestMoved(t *testing.T) {
	two := [][]int{{0, 1, 2}, {3, 4, 5}}
	for _, x := range []struct {
		a, b [][]int
		want int
	}{
		{nil, nil, 0}, {nil, two, 0}, {two, nil, 0}, {two, two, 0}, {[][]int{nil}, [][]int{{}}, 0}, {[][]int{{}, {}}, two, 0},
		{two, [][]int{{0, 1, 9}, {3, 4, 5}}, 1}, {two, [][]int{{9, 1, 2}, {3, 8, 5}}, 2}, {two, [][]int{{7, 8, 9}, {3, 4, 5}}, 3}, {two, [][]int{{7, 8, 9}, {7, 8, 9}}, 6},
		// In another order they are where they were; in another Part they are not.
		{two, [][]int{{2, 0, 1}, {5, 4, 3}}, 0}, {two, [][]int{{2, 9, 0}, {4, 3, 8}}, 2}, {two, [][]int{{3, 4, 5}, {0, 1, 2}}, 6},
		// As many Parts as both have.
		{two, [][]int{{0, 1, 9}}, 1}, {[][]int{{0, 1, 9}}, two, 1}, {two, two[:1], 0}, {two[:1], two, 0}, {two, [][]int{{0, 1, 2}, {3, 4, 5}, {6}}, 0}, {[][]int{{0, 1, 2}, {3, 4, 9}, {6}}, two, 1}, {[][]int{{9}, {8}, {7}, {6}}, two, 2}, {two, [][]int{{9}, {8}, {7}, {6}}, 6},
		// Parts of other lengths.
		{two, [][]int{{0}, {3, 4}}, 3}, {[][]int{{0}, {3, 4}}, two, 0}, {two, [][]int{{}, nil}, 6}, {[][]int{{0, 1, 2, 3, 4, 5, 6}}, two, 4}, {two, [][]int{{9, 8, 7, 2, 1, 0}, {5}}, 2}, {[][]int{{1}}, [][]int{{2, 1}}, 0},
		// Whatever the Ids are, each counts.
		{[][]int{{4, 4, 4}}, [][]int{{4}}, 0}, {[][]int{{4, 4, 5}}, [][]int{{5}}, 2}, {[][]int{{-1, math.MaxInt, math.MinInt}}, [][]int{{math.MinInt, 1, -1}}, 1}, {[][]int{{1<<32 + 2, 258}}, [][]int{{2, 2}}, 2},
	} {
		if n := impl.Moved(ring(3, x.a...), ring(3, x.b...)); n != x.want {
			t.Errorf("from %v to %v: %d moved, not %d", x.a, x.b, n, x.want)
		}
	}
	// Reps is not asked for, nor how many Parts a right ring may have.
	if n := impl.Moved(impl.Ring{Reps: -4, Parts: manyParts(300, 7).Parts}, impl.Ring{Reps: 99, Parts: manyParts(299, 6).Parts}); n != 299 {
		t.Error("of 300 Parts and 299:", n)
	}
	if n := impl.Moved(impl.Ring{}, impl.Ring{}); n != 0 {
		t.Error("of the zero ones:", n)
	}
	ids := []int{0, 1, 2}
	parts := []impl.Part{part(5), part(6)}
	if n := impl.Moved(impl.Ring{Parts: []impl.Part{{Devs: ids[:1]}}}, ring(1, []int{0})) + impl.Moved(ring(1, ids), impl.Ring{Parts: []impl.Part{{Devs: ids[:2]}}}); n != 1 {
		t.Error("Ids behind the length:", n)
	}
	if n := impl.Moved(impl.Ring{Parts: parts[:1]}, ring(1, []int{5}, []int{7})) + impl.Moved(ring(1, []int{5}, []int{7}), impl.Ring{Parts: parts[:1]}); n != 0 {
		t.Error("Parts behind the length:", n)
	}
}

func TestMovedOfMixedRings(t *testing.T) {
	told := map[int]int{}
	for seed := range uint32(3000) {
		l := rightDevs(seed)
		a, b := mixedRing(seed, l), mixedRing(seed+9000, l)
		keptA, keptB := copyRing(a), copyRing(b)
		want := 0
		for i := range min(len(a.Parts), len(b.Parts)) {
			want += movedRight(a.Parts[i], b.Parts[i])
		}
		if n := impl.Moved(a, b); n != want || impl.Moved(a, a) != 0 {
			t.Fatalf("from %v to %v: %d moved, not %d", a, b, n, want)
		}
		if !sameRing(a, keptA) || !sameRing(b, keptB) {
			t.Fatalf("written into: %v, %v", a, b)
		}
		told[want]++
	}
	if len(told) < 10 {
		t.Error("hardly any are told:", told)
	}
}

func TestMovesLeaveArgumentsAlone(t *testing.T) {
	room := append(zonedDevs(), dev(7, 9, 1), dev(8, 0, 1))
	ids := []int{0, 2, 9, 1, 3, 77, 88, 99}
	// The Parts lie in one piece of memory, two of them on top of each other, with room behind.
	parts := []impl.Part{{Devs: ids[:3]}, {Devs: ids[1:4]}, {Devs: ids[2:5]}, {Devs: ids[5:8]}, {Devs: []int{5}}}
	keptRoom, keptIds, keptParts := slices.Clone(room), slices.Clone(ids), copyParts(parts)
	for n := range 6 {
		for reps := range 7 {
			for devs := range 8 {
				r := impl.Ring{Reps: reps, Parts: parts[:n]}
				x, _ := impl.Rebalance(r, room[:devs])
				impl.Moved(r, x)
				impl.Moved(x, r)
				if !slices.Equal(room, keptRoom) || !slices.Equal(ids, keptIds) || !sameRing(impl.Ring{Parts: parts}, impl.Ring{Parts: keptParts}) {
					t.Fatal("written into:", room, ids, parts)
				}
			}
		}
	}
	want := ring(3, []int{0, 2, 4}, []int{2, 4, 1}, []int{4, 1, 3})
	if x, n := impl.Rebalance(impl.Ring{Reps: 3, Parts: parts[:3]}, room[:5]); n != 3 || !sameRing(x, want) {
		t.Error("Parts that share memory:", x, n)
	}
}

// scribble writes into all memory of a ring, and the room behind it; its Parts one by one, so that those that share are told.
func scribble(t *testing.T, r impl.Ring) {
	t.Helper()
	for i := range r.Parts {
		kept := copyRing(r)
		devs := r.Parts[i].Devs
		for k := range devs[:cap(devs)] {
			devs[:cap(devs)][k] = 1000 + 10*i + k
		}
		for k := range r.Parts {
			if k != i && !slices.Equal(r.Parts[k].Devs, kept.Parts[k].Devs) {
				t.Fatalf("the Parts %d and %d share memory", i, k)
			}
		}
	}
	for i := range r.Parts[:cap(r.Parts)] {
		r.Parts[:cap(r.Parts)][i] = part(-3)
	}
}

func TestMovesShareNoMemory(t *testing.T) {
	l := zonedDevs()
	same, _ := impl.Build(alikeDevs(5, 1), 8, 3)
	for _, x := range []struct {
		why string
		r   impl.Ring
		l   []impl.Dev
	}{
		{"changed", ring(3, []int{0, 9, 2}, []int{8, 9, 3}, []int{4, 1, 0}, []int{3, 1, 4}), l},
		{"as it was", same, alikeDevs(5, 1)},
		{"refused for its devices", ring(3, []int{0, 9, 2}, []int{8, 9, 3}), nil},
		{"refused for its Reps", ring(6, []int{0, 9, 2}, []int{8, 9, 3}), l},
		{"refused for its last Part", ring(3, []int{0, 9, 2}, []int{8, 9, 3}, []int{0, 1}), l},
		{"refused for too many Parts", manyParts(65, 2), l},
	} {
		kept, keptDevs := copyRing(x.r), slices.Clone(x.l)
		want, wantN := rebalanceRight(x.r, x.l)
		a, _ := impl.Rebalance(x.r, x.l)
		b, _ := impl.Rebalance(x.r, x.l)
		scribble(t, a)
		if !sameRing(x.r, kept) || !slices.Equal(x.l, keptDevs) {
			t.Errorf("%s: shared with an argument: %v", x.why, x.r)
		}
		if !sameRing(b, want) {
			t.Errorf("%s: shared with another answer: %v", x.why, b)
		}
		if c, n := impl.Rebalance(x.r, x.l); n != wantN || !sameRing(c, want) {
			t.Errorf("%s: kept from an earlier call: %v, %d", x.why, c, n)
		}
		scribble(t, x.r)
		if !sameRing(b, want) {
			t.Errorf("%s: an answer is changed with its argument: %v", x.why, b)
		}
	}
}

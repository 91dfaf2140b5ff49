package tests

import (
	"fmt"
	"math"
	"slices"
	"strings"
	"testing"

	"loop.example/g00241/impl"
)

const maxSeq, maxNode = 1000000, 20

// edgesOf holds 0 and a limit, each passed by one, below and above, what is between, and what is far off.
func edgesOf(limit int) []int {
	return []int{math.MinInt, -limit, -1, 0, 1, limit / 2, limit - 1, limit, limit + 1, math.MaxInt - 1, math.MaxInt}
}

// edgeStamps holds each edge of each number with each of the others.
func edgeStamps() []impl.Stamp {
	var out []impl.Stamp
	for _, time := range edgesOf(impl.MaxTime) {
		for _, seq := range edgesOf(maxSeq) {
			for _, node := range edgesOf(maxNode) {
				out = append(out, impl.Stamp{Time: time, Seq: seq, Node: node})
			}
		}
	}
	return out
}

// stampRight is the document's own rule, written apart from the program's way.
func stampRight(s impl.Stamp) bool {
	return 0 <= s.Time && s.Time <= impl.MaxTime && 0 <= s.Seq && s.Seq <= maxSeq && 0 <= s.Node && s.Node <= maxNode
}

func stampOrder(a, b impl.Stamp) int {
	return slices.Compare([]int{a.Time, a.Seq, a.Node}, []int{b.Time, b.Seq, b.Node})
}

func TestStampOk(t *testing.T) {
	if impl.MaxTime != 1000000000 {
		t.Error("MaxTime", impl.MaxTime)
	}
	for _, s := range []impl.Stamp{
		{}, {Time: impl.MaxTime}, {Seq: 1000000}, {Node: 20}, {Time: 1000000000, Seq: 1000000, Node: 20}, {Time: 5, Seq: 1, Node: 2},
	} {
		if !impl.StampOk(s) {
			t.Error("is right:", s)
		}
	}
	for _, s := range []impl.Stamp{
		{Time: -1}, {Seq: -1}, {Node: -1}, {Time: 1000000001}, {Seq: 1000001}, {Node: 21},
		{Time: 1000000000, Seq: 1000000, Node: 21}, {Time: math.MinInt}, {Seq: math.MaxInt}, {Node: math.MaxInt}, {Time: 1 << 32}, {Node: 1 << 32},
	} {
		if impl.StampOk(s) {
			t.Error("is not right:", s)
		}
	}
	for _, s := range edgeStamps() {
		if impl.StampOk(s) != stampRight(s) {
			t.Fatal(s, impl.StampOk(s))
		}
	}
}

func TestStampsInOrder(t *testing.T) {
	rising := []impl.Stamp{
		{}, {Node: 1}, {Node: 20}, {Seq: 1}, {Seq: 1, Node: 20}, {Seq: 2, Node: 1}, {Seq: 1000000}, {Time: 1}, {Time: 1, Node: 2},
		{Time: 1, Seq: 1, Node: 1}, {Time: 2}, {Time: impl.MaxTime}, {Time: impl.MaxTime, Seq: 1000000, Node: 20},
	}
	for i, a := range rising {
		for k, b := range rising {
			if impl.LessStamp(a, b) != (i < k) {
				t.Errorf("%v less than %v: %v", a, b, impl.LessStamp(a, b))
			}
		}
	}
}

// Those that are not right are ordered, too, and no difference of two numbers may wrap round.
func TestStampsInOrderAtTheirEdges(t *testing.T) {
	far := []int{math.MinInt, -1, 0, 20, math.MaxInt}
	var all []impl.Stamp
	for _, time := range far {
		for _, seq := range far {
			for _, node := range far {
				all = append(all, impl.Stamp{Time: time, Seq: seq, Node: node})
			}
		}
	}
	for _, a := range all {
		for _, b := range all {
			if impl.LessStamp(a, b) != (stampOrder(a, b) < 0) {
				t.Fatalf("%v less than %v: %v", a, b, impl.LessStamp(a, b))
			}
		}
	}
}

func TestNextStamp(t *testing.T) {
	last := impl.Stamp{Time: 5, Seq: 7, Node: 9}
	for _, x := range []struct {
		time, node int
		want       impl.Stamp
	}{
		{6, 3, impl.Stamp{Time: 6, Node: 3}}, {6, 0, impl.Stamp{Time: 6}}, {6, 20, impl.Stamp{Time: 6, Node: 20}},
		{impl.MaxTime, 1, impl.Stamp{Time: impl.MaxTime, Node: 1}},
		{5, 3, impl.Stamp{Time: 5, Seq: 8, Node: 3}}, {5, 9, impl.Stamp{Time: 5, Seq: 8, Node: 9}}, {5, 0, impl.Stamp{Time: 5, Seq: 8}},
		{4, 20, impl.Stamp{Time: 5, Seq: 8, Node: 20}}, {0, 0, impl.Stamp{Time: 5, Seq: 8}}, {-1, 0, impl.Stamp{Time: 5, Seq: 8}},
		{math.MinInt, 1, impl.Stamp{Time: 5, Seq: 8, Node: 1}},
		{impl.MaxTime + 1, 0, last}, {math.MaxInt, 0, last}, {6, -1, last}, {6, 21, last}, {5, -1, last}, {5, 21, last}, {4, 21, last},
		{6, math.MinInt, last}, {5, math.MaxInt, last},
	} {
		if s := impl.NextStamp(last, x.time, x.node); s != x.want {
			t.Errorf("next at %d by %d: %v, not %v", x.time, x.node, s, x.want)
		}
	}
}

func TestNextStampAtItsLimits(t *testing.T) {
	for _, x := range []struct {
		last       impl.Stamp
		time, node int
		want       impl.Stamp
	}{
		{impl.Stamp{}, 0, 0, impl.Stamp{Seq: 1}},
		{impl.Stamp{}, 1, 0, impl.Stamp{Time: 1}},
		{impl.Stamp{Time: 5, Seq: 999999, Node: 1}, 5, 2, impl.Stamp{Time: 5, Seq: 1000000, Node: 2}},
		{impl.Stamp{Time: 5, Seq: 1000000, Node: 1}, 5, 2, impl.Stamp{Time: 5, Seq: 1000000, Node: 1}},
		{impl.Stamp{Time: 5, Seq: 1000000, Node: 1}, 4, 2, impl.Stamp{Time: 5, Seq: 1000000, Node: 1}},
		{impl.Stamp{Time: 5, Seq: 1000000, Node: 1}, 6, 2, impl.Stamp{Time: 6, Node: 2}},
		{impl.Stamp{Time: impl.MaxTime - 1}, impl.MaxTime, 0, impl.Stamp{Time: impl.MaxTime}},
		{impl.Stamp{Time: impl.MaxTime}, impl.MaxTime, 4, impl.Stamp{Time: impl.MaxTime, Seq: 1, Node: 4}},
		{impl.Stamp{Time: impl.MaxTime}, impl.MaxTime + 1, 4, impl.Stamp{Time: impl.MaxTime}},
		// Of a last one that is not right, what comes next is told by the same words.
		{impl.Stamp{Time: -5, Seq: -3, Node: -1}, 0, 1, impl.Stamp{Node: 1}},
		{impl.Stamp{Time: -5}, -4, 1, impl.Stamp{Time: -5}},
		{impl.Stamp{Time: -5}, -5, 1, impl.Stamp{Time: -5}},
		{impl.Stamp{Time: 5, Seq: -1, Node: 99}, 5, 1, impl.Stamp{Time: 5, Node: 1}},
		{impl.Stamp{Time: 5, Seq: -2}, 5, 1, impl.Stamp{Time: 5, Seq: -2}},
		{impl.Stamp{Time: 5, Seq: math.MaxInt}, 5, 1, impl.Stamp{Time: 5, Seq: math.MaxInt}},
		{impl.Stamp{Time: impl.MaxTime + 1, Seq: 3}, 9, 1, impl.Stamp{Time: impl.MaxTime + 1, Seq: 3}},
		{impl.Stamp{Time: math.MaxInt, Seq: 3}, math.MaxInt, 1, impl.Stamp{Time: math.MaxInt, Seq: 3}},
	} {
		if s := impl.NextStamp(x.last, x.time, x.node); s != x.want {
			t.Errorf("next of %v at %d by %d: %v, not %v", x.last, x.time, x.node, s, x.want)
		}
	}
}

// Whatever comes next is right and later, or is last itself.
func TestNextStampIsLater(t *testing.T) {
	for _, last := range edgeStamps() {
		for _, time := range append(edgesOf(impl.MaxTime), last.Time) {
			for _, node := range []int{-1, 0, 7, 20, 21} {
				next := impl.NextStamp(last, time, node)
				if next != last && (!stampRight(next) || !impl.LessStamp(last, next) || stampOrder(last, next) >= 0) {
					t.Fatalf("next of %v at %d by %d: %v", last, time, node, next)
				}
				room := last.Seq < maxSeq || last.Time < time
				if next == last && stampRight(last) && room && time <= impl.MaxTime && 0 <= node && node <= maxNode {
					t.Fatalf("none next of %v at %d by %d", last, time, node)
				}
			}
		}
	}
}

func TestStampsOfAClockThatStandsStillOrGoesBack(t *testing.T) {
	last := impl.Stamp{}
	seen := []impl.Stamp{last}
	for i, time := range []int{0, 0, 3, 3, 3, 2, 1, 0, -7, 3, 4, 4, 2, 9, 9, 8} {
		next := impl.NextStamp(last, time, (40-i)%21)
		if !impl.LessStamp(last, next) || impl.LessStamp(next, last) || !impl.StampOk(next) {
			t.Fatalf("at %d: %v behind %v", time, next, last)
		}
		last = next
		seen = append(seen, last)
	}
	if last != (impl.Stamp{Time: 9, Seq: 2, Node: 4}) {
		t.Error("at last", last)
	}
	if !slices.IsSortedFunc(seen, stampOrder) || impl.LatestStamp(seen) != last {
		t.Error("not rising", seen)
	}
}

func TestLatestStamp(t *testing.T) {
	if s := impl.LatestStamp(nil); s != (impl.Stamp{}) {
		t.Error("of nil", s)
	}
	if s := impl.LatestStamp([]impl.Stamp{}); s != (impl.Stamp{}) {
		t.Error("of none", s)
	}
	below := impl.Stamp{Time: -3, Seq: 2, Node: 1}
	for _, l := range [][]impl.Stamp{{below}, {below, below}, {{Time: -4}, below}, {below, {Time: -3, Seq: 2}}} {
		if s := impl.LatestStamp(l); s != below {
			t.Error("of those below zero", l, s)
		}
	}
	for _, x := range []struct{ late, early impl.Stamp }{
		{impl.Stamp{Time: 2}, impl.Stamp{Time: 1, Seq: 1000000, Node: 20}},
		{impl.Stamp{Time: 1, Seq: 2}, impl.Stamp{Time: 1, Seq: 1, Node: 20}},
		{impl.Stamp{Time: 1, Seq: 1, Node: 2}, impl.Stamp{Time: 1, Seq: 1, Node: 1}},
		{impl.Stamp{Time: math.MaxInt}, impl.Stamp{Time: math.MinInt}},
	} {
		for place := range 5 {
			l := []impl.Stamp{x.early, x.early, x.early, x.early, x.early}
			l[place] = x.late
			if s := impl.LatestStamp(l); s != x.late {
				t.Errorf("of %v: %v", l, s)
			}
		}
	}
	rising := slices.SortedFunc(slices.Values(edgeStamps()), stampOrder)
	for n := 1; n <= len(rising); n += 17 {
		back := slices.Clone(rising[:n])
		slices.Reverse(back)
		if impl.LatestStamp(rising[:n]) != rising[n-1] || impl.LatestStamp(back) != rising[n-1] {
			t.Fatalf("of %d, others behind its length: %v", n, impl.LatestStamp(rising[:n]))
		}
	}
}

func TestLatestStampLeavesItsListAlone(t *testing.T) {
	room := []impl.Stamp{{Time: 3}, {Time: 1}, {Time: 2}, {Time: 9}}
	kept := slices.Clone(room)
	if s := impl.LatestStamp(room[:3]); s != (impl.Stamp{Time: 3}) || !slices.Equal(room, kept) {
		t.Error(s, room)
	}
}

func TestStampsComeBack(t *testing.T) {
	for text, s := range map[string]impl.Stamp{
		"0.0.0": {}, "5.1.2": {Time: 5, Seq: 1, Node: 2}, "10.100.10": {Time: 10, Seq: 100, Node: 10},
		"1000000000.1000000.20": {Time: impl.MaxTime, Seq: 1000000, Node: 20}, "1000000000.0.0": {Time: impl.MaxTime},
		"0.1000000.0": {Seq: 1000000}, "0.0.20": {Node: 20}, "999999999.999999.19": {Time: 999999999, Seq: 999999, Node: 19},
	} {
		if told := impl.StampText(s); told != text {
			t.Errorf("text of %v: %q", s, told)
		}
		if back, ok := impl.ParseStamp(text); back != s || !ok {
			t.Errorf("stamp of %q: %v %v", text, back, ok)
		}
	}
	for _, s := range edgeStamps() {
		text := impl.StampText(s)
		if !stampRight(s) {
			if text != "" {
				t.Fatalf("text of %v: %q", s, text)
			}
			continue
		}
		if text != fmt.Sprintf("%d.%d.%d", s.Time, s.Seq, s.Node) {
			t.Fatalf("text of %v: %q", s, text)
		}
		if back, ok := impl.ParseStamp(text); back != s || !ok {
			t.Fatalf("stamp of %q: %v %v", text, back, ok)
		}
	}
}

func TestTextsThatAreNoStamps(t *testing.T) {
	for _, s := range []string{
		"", "5", "5.1", "5.1.2.3", "5.1.2.", ".5.1.2", ".", "..", "...", "5..2", ".1.2", "5.1.", "5.1..2",
		"05.1.2", "5.01.2", "5.1.02", "00.0.0", "0.00.0", "0.0.00", "+5.1.2", "-5.1.2", "5.+1.2", "5.-1.2", "5.1.-2", "5.1.+2", "-0.0.0", "0.0.-0",
		" 5.1.2", "5.1.2 ", "5 .1.2", "5. 1.2", "5.1. 2", "5.1.2\n", "\t5.1.2", "5.1.2\x00", "\x005.1.2", "5,1,2", "5:1:2", "5-1-2", "5.1,2",
		"a.b.c", "5.1.x", "0x5.1.2", "5e1.1.2", "1_0.1.2", "5.1.2a", "/.1.2", "5.:.2", "5.1.\xff", "\xef\xbc\x95.1.2", "\xd9\xa5.1.2",
		"1000000001.0.0", "0.1000001.0", "0.0.21", "0.0.100", "10000000000.0.0", "0.10000000.0", "0.0.200",
		"9223372036854775807.0.0", "9223372036854775808.0.0", "18446744073709551616.0.0", "18446744073709551621.1.2",
		"5.18446744073709551617.2", "5.1.18446744073709551618", "340282366920938463463374607431768211456.0.0",
		strings.Repeat("9", 3000) + ".1.2", "5." + strings.Repeat("9", 3000) + ".2", "5.1." + strings.Repeat("9", 3000),
		"1" + strings.Repeat("0", 3000) + ".0.0", strings.Repeat("0", 3000) + ".1.2", strings.Repeat(".", 3000), strings.Repeat("1.", 3000),
	} {
		if x, ok := impl.ParseStamp(s); ok || x != (impl.Stamp{}) {
			t.Errorf("%.60q: %v %v", s, x, ok)
		}
	}
}

// A stamp has one text alone: whatever is read is what would be told, and each turned byte of a text is read so.
func TestStampsHaveOneText(t *testing.T) {
	for _, text := range []string{"0.0.0", "5.1.2", "1000000000.1000000.20", "10.20.10"} {
		for i := range len(text) {
			for c := range 256 {
				for _, s := range []string{
					text[:i] + string([]byte{byte(c)}) + text[i+1:], text[:i] + string([]byte{byte(c)}) + text[i:], text[:i] + text[i+1:],
				} {
					x, ok := impl.ParseStamp(s)
					if ok && (!impl.StampOk(x) || impl.StampText(x) != s) || !ok && x != (impl.Stamp{}) {
						t.Fatalf("%q: %v %v", s, x, ok)
					}
				}
			}
		}
	}
}

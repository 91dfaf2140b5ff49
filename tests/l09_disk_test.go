package tests

import (
	"bytes"
	"fmt"
	"maps"
	"math"
	"slices"
	"strconv"
	"strings"
	"testing"

	"loop.example/g00241/impl"
)

// onDisk tells names and their bytes in no order: what a disk holds by the document's words, apart from the program's way.
type onDisk map[string]string

func named(name, data string) impl.Named { return impl.Named{Name: name, Bytes: []byte(data)} }

func listOf(m onDisk) []impl.Named {
	var l []impl.Named
	for _, name := range slices.Sorted(maps.Keys(m)) {
		l = append(l, named(name, m[name]))
	}
	return l
}

func diskOf(now, sure onDisk) impl.Disk { return impl.Disk{Now: listOf(now), Sure: listOf(sure)} }

func onDiskOf(l []impl.Named) onDisk {
	m := onDisk{}
	for _, x := range l {
		m[x.Name] = string(x.Bytes)
	}
	return m
}

// manyNames makes n names that begin alike, from one number on.
func manyNames(prefix string, from, n int) onDisk {
	m := onDisk{}
	for i := range n {
		m[fmt.Sprintf("%s%03d", prefix, from+i)] = fmt.Sprint(i)
	}
	return m
}

func sameList(a, b []impl.Named) bool {
	return slices.EqualFunc(a, b, func(x, y impl.Named) bool { return x.Name == y.Name && bytes.Equal(x.Bytes, y.Bytes) })
}

func sameDisk(a, b impl.Disk) bool { return sameList(a.Now, b.Now) && sameList(a.Sure, b.Sure) }

func listRight(l []impl.Named) bool {
	for _, x := range l {
		if !nameRight(x.Name) || len(x.Bytes) > 400 {
			return false
		}
	}
	return len(l) <= 60 && sameList(l, listOf(onDiskOf(l)))
}

func diskRight(d impl.Disk) bool { return listRight(d.Now) && listRight(d.Sure) }

func writeRight(d impl.Disk, s string, b []byte) (impl.Disk, bool) {
	now := onDiskOf(d.Now)
	now[s] = string(b)
	if !diskRight(d) || !nameRight(s) || len(b) > 400 || len(now) > 60 {
		return d, false
	}
	return impl.Disk{Now: listOf(now), Sure: d.Sure}, true
}

func removeRight(d impl.Disk, s string) (impl.Disk, bool) {
	now := onDiskOf(d.Now)
	_, there := now[s]
	delete(now, s)
	if !diskRight(d) || !there {
		return d, false
	}
	return impl.Disk{Now: listOf(now), Sure: d.Sure}, true
}

func syncRight(d impl.Disk, s string) (impl.Disk, bool) {
	sure := onDiskOf(d.Sure)
	delete(sure, s)
	if data, there := onDiskOf(d.Now)[s]; there {
		sure[s] = data
	}
	if !diskRight(d) || !nameRight(s) || len(sure) > 60 {
		return d, false
	}
	return impl.Disk{Now: d.Now, Sure: listOf(sure)}, true
}

func fallRight(d impl.Disk, keep []bool) impl.Disk {
	both := onDisk{}
	maps.Copy(both, onDiskOf(d.Now))
	maps.Copy(both, onDiskOf(d.Sure))
	left := onDisk{}
	for i, name := range slices.Sorted(maps.Keys(both)) {
		from := onDiskOf(d.Sure)
		if i < len(keep) && keep[i] {
			from = onDiskOf(d.Now)
		}
		if data, there := from[name]; there {
			left[name] = data
		}
	}
	if !diskRight(d) || len(left) > 60 {
		return d
	}
	return diskOf(left, left)
}

func rotRight(d impl.Disk, s string, n int) (impl.Disk, bool) {
	now, sure := onDiskOf(d.Now), onDiskOf(d.Sure)
	was, there := now[s]
	if !diskRight(d) || !there || n < 0 || n >= len(was)*8 {
		return d, false
	}
	b := []byte(was)
	for bit := range 8 {
		if bit == n%8 {
			b[n/8] ^= byte([]int{1, 2, 4, 8, 16, 32, 64, 128}[bit])
		}
	}
	now[s] = string(b)
	if data, there := sure[s]; there && data == was {
		sure[s] = string(b)
	}
	return diskOf(now, sure), true
}

// roomy copies a list into memory of which more stands behind each length, of names and bytes that would be right.
func roomy(l []impl.Named) []impl.Named {
	out := make([]impl.Named, 0, len(l)+2)
	for _, x := range l {
		b := append(make([]byte, 0, len(x.Bytes)+5), x.Bytes...)
		copy(b[len(b):cap(b)], "-room-room-")
		out = append(out, impl.Named{Name: x.Name, Bytes: b})
	}
	for i := range out[len(out):cap(out)] {
		out[:cap(out)][len(out)+i] = named("zz-room"+fmt.Sprint(i), "room")
	}
	return out
}

func roomyDisk(d impl.Disk) impl.Disk { return impl.Disk{Now: roomy(d.Now), Sure: roomy(d.Sure)} }

// wholeOf tells all memory of a list, and the room behind it.
func wholeOf(l []impl.Named) string {
	var out strings.Builder
	for _, x := range l[:cap(l)] {
		for _, part := range []string{x.Name, string(x.Bytes[:cap(x.Bytes)])} {
			out.WriteString(strconv.Itoa(len(part)) + ":" + part)
		}
	}
	return out.String()
}

func wholeDisk(d impl.Disk) string { return wholeOf(d.Now) + "|" + wholeOf(d.Sure) }

// ownMemory writes into all of a disk, and asks whether what is written into one place is seen at another.
func ownMemory(t *testing.T, why string, d impl.Disk) {
	t.Helper()
	all := slices.Concat(d.Now, d.Sure)
	for i, x := range all {
		fill(x.Bytes, byte(i))
	}
	for i, x := range all {
		if bytes.Count(x.Bytes[:cap(x.Bytes)], []byte{byte(i)}) != cap(x.Bytes) {
			t.Fatalf("%s: bytes of %q are those of another one, too: %v", why, x.Name, x.Bytes)
		}
	}
	for i := range d.Now[:cap(d.Now)] {
		d.Now[:cap(d.Now)][i].Name = "now"
	}
	for i := range d.Sure[:cap(d.Sure)] {
		d.Sure[:cap(d.Sure)][i].Name = "sure"
	}
	for _, x := range d.Now[:cap(d.Now)] {
		if x.Name != "now" {
			t.Fatalf("%s: Now and Sure are one list", why)
		}
	}
}

// holdCall asks for all that the chapter says of one call that answers a disk, and tells it.
func holdCall(t *testing.T, why string, d impl.Disk, call func(impl.Disk) (impl.Disk, bool), want impl.Disk, wantOk bool) impl.Disk {
	t.Helper()
	arg := roomyDisk(d)
	kept := wholeDisk(arg)
	got, ok := call(arg)
	if ok != wantOk || !sameDisk(got, want) {
		t.Fatalf("%s of %q: %q %v, not %q %v", why, d, got, ok, want, wantOk)
	}
	if diskRight(got) != diskRight(d) || impl.DiskOk(got) != diskRight(d) {
		t.Fatalf("%s of %q: %q is as right as the one ahead of it was not", why, d, got)
	}
	if wholeDisk(arg) != kept {
		t.Fatalf("%s of %q: written into: %q", why, d, arg)
	}
	again, _ := call(arg)
	ownMemory(t, why, got)
	if wholeDisk(arg) != kept || !sameDisk(again, want) {
		t.Fatalf("%s of %q: its answer is shared: %q, %q", why, d, arg, again)
	}
	return again
}

func holdWrite(t *testing.T, d impl.Disk, s string, b string) impl.Disk {
	t.Helper()
	data := append([]byte(b), "room"...)
	want, ok := writeRight(d, s, []byte(b))
	x := holdCall(t, fmt.Sprintf("WriteName %q of %d bytes", s, len(b)), d, func(d impl.Disk) (impl.Disk, bool) {
		return impl.WriteName(d, s, data[:len(b)])
	}, want, ok)
	if string(data) != b+"room" {
		t.Fatalf("WriteName %q: its bytes are written into: %q", s, data)
	}
	return x
}

func holdRemove(t *testing.T, d impl.Disk, s string) impl.Disk {
	t.Helper()
	want, ok := removeRight(d, s)
	return holdCall(t, fmt.Sprintf("RemoveName %q", s), d, func(d impl.Disk) (impl.Disk, bool) { return impl.RemoveName(d, s) }, want, ok)
}

func holdSync(t *testing.T, d impl.Disk, s string) impl.Disk {
	t.Helper()
	want, ok := syncRight(d, s)
	return holdCall(t, fmt.Sprintf("SyncName %q", s), d, func(d impl.Disk) (impl.Disk, bool) { return impl.SyncName(d, s) }, want, ok)
}

func holdRot(t *testing.T, d impl.Disk, s string, n int) impl.Disk {
	t.Helper()
	want, ok := rotRight(d, s, n)
	return holdCall(t, fmt.Sprintf("RotBit %q %d", s, n), d, func(d impl.Disk) (impl.Disk, bool) { return impl.RotBit(d, s, n) }, want, ok)
}

func holdFall(t *testing.T, d impl.Disk, keep ...bool) impl.Disk {
	t.Helper()
	// What stands behind its length would keep all.
	room := append(slices.Clone(keep), true, true, true, true)
	kept := slices.Clone(room)
	x := holdCall(t, fmt.Sprint("FallDisk ", keep), d, func(d impl.Disk) (impl.Disk, bool) {
		return impl.FallDisk(d, room[:len(keep)]), true
	}, fallRight(d, keep), true)
	if !slices.Equal(room, kept) {
		t.Fatalf("FallDisk %v: what is kept is written into: %v", keep, room)
	}
	return x
}

func holdRead(t *testing.T, d impl.Disk, s string) {
	t.Helper()
	var want []byte
	at := slices.IndexFunc(d.Now, func(x impl.Named) bool { return x.Name == s })
	if at >= 0 {
		want = d.Now[at].Bytes
	}
	arg := roomyDisk(d)
	kept := wholeDisk(arg)
	got, ok := impl.ReadName(arg, s)
	if ok != (at >= 0) || !bytes.Equal(got, want) {
		t.Fatalf("ReadName %q of %q: %q %v, not %q", s, d, got, ok, want)
	}
	fill(got, 99)
	if wholeDisk(arg) != kept {
		t.Fatalf("ReadName %q of %q: shared or written into: %q", s, d, arg)
	}
}

// holdAll asks each function at one disk.
func holdAll(t *testing.T, d impl.Disk, s string) {
	t.Helper()
	if impl.DiskOk(d) != diskRight(d) {
		t.Fatalf("DiskOk of %q: %v", d, impl.DiskOk(d))
	}
	holdRead(t, d, s)
	holdWrite(t, d, s, "new")
	holdRemove(t, d, s)
	holdSync(t, d, s)
	holdFall(t, d)
	holdFall(t, d, true, false, true)
	holdFall(t, d, slices.Repeat([]bool{true}, 200)...)
	for _, n := range []int{-1, 0, 7, 8} {
		holdRot(t, d, s, n)
	}
}

// allKeeps tells each list of flags up to a length.
func allKeeps(most int) [][]bool {
	out := [][]bool{{}}
	for at := 0; at < len(out); at++ {
		if len(out[at]) < most {
			out = append(out, append(slices.Clone(out[at]), false), append(slices.Clone(out[at]), true))
		}
	}
	return out
}

// smallDisks holds each disk of these names, where each is in Now and in Sure not there, there, or there with other bytes.
func smallDisks(names ...string) []impl.Disk {
	out := []impl.Disk{{}}
	for _, name := range names {
		var more []impl.Disk
		for _, d := range out {
			for state := range 9 {
				now, sure := onDiskOf(d.Now), onDiskOf(d.Sure)
				if state%3 > 0 {
					now[name] = "one two"[:3*(state%3)]
				}
				if state/3 > 0 {
					sure[name] = "one two"[:3*(state/3)]
				}
				more = append(more, diskOf(now, sure))
			}
		}
		out = more
	}
	return out
}

func TestBehindACrashEachNameIsAsItWasReadOrAsItWasSure(t *testing.T) {
	keeps := allKeeps(4)
	for _, d := range smallDisks("a", "b", "c") {
		for _, keep := range keeps {
			if x := impl.FallDisk(d, keep); !sameDisk(x, fallRight(d, keep)) || !sameList(x.Now, x.Sure) {
				t.Fatalf("FallDisk of %q, %v: %q", d, keep, x)
			}
		}
	}
	for _, d := range smallDisks("x-1", "x") {
		for _, keep := range keeps {
			holdFall(t, d, keep...)
		}
	}
}

func TestACrashByExamples(t *testing.T) {
	written := diskOf(onDisk{"new": "n"}, nil)
	removed := diskOf(nil, onDisk{"old": "o"})
	changed := diskOf(onDisk{"x": "two"}, onDisk{"x": "one"})
	mixed := diskOf(onDisk{"b": "now", "c": "c", "e": ""}, onDisk{"a": "gone", "b": "sure", "d": "d", "e": "e"})
	for _, x := range []struct {
		why  string
		d    impl.Disk
		keep []bool
		want onDisk
	}{
		{"written, not made sure, not kept", written, []bool{false}, nil},
		{"written, not made sure, nothing told", written, nil, nil},
		{"written, not made sure, kept", written, []bool{true}, onDisk{"new": "n"}},
		{"removed, not made sure, not kept", removed, []bool{false}, onDisk{"old": "o"}},
		{"removed, not made sure, nothing told", removed, nil, onDisk{"old": "o"}},
		{"removed, not made sure, kept", removed, []bool{true}, nil},
		{"removed, not made sure, kept, and more told", removed, []bool{true, false, false}, nil},
		{"changed, not kept", changed, []bool{false, true}, onDisk{"x": "one"}},
		{"changed, kept", changed, []bool{true, false}, onDisk{"x": "two"}},
		{"all not kept", mixed, []bool{false, false, false, false, false}, onDisk{"a": "gone", "b": "sure", "d": "d", "e": "e"}},
		{"all kept", mixed, []bool{true, true, true, true, true}, onDisk{"b": "now", "c": "c", "e": ""}},
		{"the first two kept, no more told", mixed, []bool{true, true}, onDisk{"b": "now", "d": "d", "e": "e"}},
		{"the last one kept", mixed, []bool{false, false, false, false, true}, onDisk{"a": "gone", "b": "sure", "d": "d", "e": ""}},
		{"one behind the last one", mixed, []bool{false, false, false, false, false, true}, onDisk{"a": "gone", "b": "sure", "d": "d", "e": "e"}},
		{"each second one", mixed, []bool{true, false, true, false, true, false}, onDisk{"b": "sure", "c": "c", "d": "d", "e": ""}},
		{"nothing there", impl.Disk{}, []bool{true}, nil},
	} {
		got := holdFall(t, x.d, x.keep...)
		if !sameDisk(got, diskOf(x.want, x.want)) {
			t.Errorf("%s: %q, not %q", x.why, got, x.want)
		}
	}
}

func TestWhatWasRemovedButNotForSure(t *testing.T) {
	d, _ := impl.WriteName(impl.Disk{}, "b", []byte("kept"))
	d, _ = impl.WriteName(d, "a", []byte("beside"))
	d, _ = impl.SyncName(d, "b")
	d, ok := impl.RemoveName(d, "b")
	if _, there := impl.ReadName(d, "b"); !ok || there {
		t.Fatalf("removed: %q", d)
	}
	if x := impl.FallDisk(d, []bool{true, false}); !sameDisk(x, diskOf(onDisk{"a": "beside", "b": "kept"}, onDisk{"a": "beside", "b": "kept"})) {
		t.Errorf("does not come back: %q", x)
	}
	if x := impl.FallDisk(d, []bool{false, true}); len(x.Now) != 0 || len(x.Sure) != 0 {
		t.Errorf("comes back, though it is held: %q", x)
	}
	d, ok = impl.SyncName(d, "b")
	for _, keep := range allKeeps(4) {
		x := impl.FallDisk(d, keep)
		if _, there := impl.ReadName(x, "b"); !ok || there {
			t.Errorf("removed for sure, and yet back behind %v: %q", keep, x)
		}
		// A second crash brings nothing back, either.
		if y := impl.FallDisk(x, keep); !sameDisk(x, y) {
			t.Errorf("a crash behind %v changes %q into %q", keep, x, y)
		}
	}
}

func TestWhatIsSureOutlivesAnyCrash(t *testing.T) {
	for _, d := range smallDisks("a", "b", "c") {
		for _, s := range []string{"a", "b", "c", "b0"} {
			was, there := impl.ReadName(d, s)
			x, ok := impl.SyncName(d, s)
			if !ok {
				t.Fatalf("SyncName %q of %q", s, d)
			}
			for _, keep := range allKeeps(4) {
				b, still := impl.ReadName(impl.FallDisk(x, keep), s)
				if still != there || !bytes.Equal(b, was) {
					t.Fatalf("%q of %q was %q, is %q behind %v", s, d, was, b, keep)
				}
			}
		}
	}
}

func TestSmallDisksInAllFunctions(t *testing.T) {
	for _, d := range smallDisks("b", "d") {
		for _, s := range []string{"a", "b", "c", "d", "e", "", "A", "bb"} {
			holdAll(t, d, s)
		}
	}
}

func TestNewNamesFindTheirPlace(t *testing.T) {
	d := diskOf(onDisk{"b": "1", "d": "2", "d/x": "3"}, onDisk{"b": "1"})
	for _, x := range []struct {
		name string
		now  []string
	}{
		{"a", []string{"a", "b", "d", "d/x"}}, {"-", []string{"-", "b", "d", "d/x"}}, {"9", []string{"9", "b", "d", "d/x"}}, {"_", []string{"_", "b", "d", "d/x"}},
		{"c", []string{"b", "c", "d", "d/x"}}, {"bz", []string{"b", "bz", "d", "d/x"}}, {"d/", []string{"b", "d", "d/", "d/x"}}, {"d-", []string{"b", "d", "d-", "d/x"}},
		{"d0", []string{"b", "d", "d/x", "d0"}}, {"z", []string{"b", "d", "d/x", "z"}}, {"d/xx", []string{"b", "d", "d/x", "d/xx"}},
		{"b", []string{"b", "d", "d/x"}}, {"d", []string{"b", "d", "d/x"}}, {"d/x", []string{"b", "d", "d/x"}},
	} {
		got := holdWrite(t, d, x.name, "new")
		var names []string
		for _, y := range got.Now {
			names = append(names, y.Name)
		}
		b, ok := impl.ReadName(got, x.name)
		if !slices.Equal(names, x.now) || !ok || string(b) != "new" || !sameList(got.Sure, d.Sure) {
			t.Errorf("%s is written: %q", x.name, got)
		}
		if synced := holdSync(t, got, x.name); !slices.ContainsFunc(synced.Sure, func(y impl.Named) bool { return y.Name == x.name && string(y.Bytes) == "new" }) {
			t.Errorf("%s is made sure: %q", x.name, synced)
		}
		holdRemove(t, got, x.name)
	}
}

func TestRemovedAndSyncedNamesThatAreNotThere(t *testing.T) {
	d := diskOf(onDisk{"both": "b", "now": "n"}, onDisk{"both": "b", "sure": "s"})
	for _, x := range []struct {
		name         string
		removed      bool
		behind, sure onDisk
	}{
		{"both", true, onDisk{"now": "n"}, onDisk{"both": "b", "sure": "s"}},
		{"now", true, onDisk{"both": "b"}, onDisk{"both": "b", "now": "n", "sure": "s"}},
		{"sure", false, onDisk{"both": "b", "now": "n"}, onDisk{"both": "b"}},
		{"neither", false, onDisk{"both": "b", "now": "n"}, onDisk{"both": "b", "sure": "s"}},
	} {
		got, ok := impl.RemoveName(d, x.name)
		if ok != x.removed || !sameList(got.Now, listOf(x.behind)) || !sameList(got.Sure, d.Sure) {
			t.Errorf("%s is removed: %q %v", x.name, got, ok)
		}
		got, ok = impl.SyncName(d, x.name)
		if !ok || !sameList(got.Sure, listOf(x.sure)) || !sameList(got.Now, d.Now) {
			t.Errorf("%s is made sure: %q %v", x.name, got, ok)
		}
		holdAll(t, d, x.name)
	}
	for _, s := range texts() {
		got, ok := impl.SyncName(d, s)
		if ok != nameRight(s) || !sameDisk(got, d) {
			t.Errorf("%q is made sure: %q %v", s, got, ok)
		}
		holdAll(t, d, s)
		holdAll(t, impl.Disk{}, s)
	}
}

func TestDisksByTheCountOfTheirNames(t *testing.T) {
	for _, now := range []int{0, 59, 60, 61, 62, 120} {
		for _, sure := range []int{0, 59, 60, 61, 120} {
			for _, from := range []int{0, 1, 200} {
				d := diskOf(manyNames("m", 0, now), manyNames("m", from, sure))
				if impl.DiskOk(d) != (now <= 60 && sure <= 60) {
					t.Errorf("DiskOk with %d and %d names", now, sure)
				}
				for _, s := range []string{"a", "m000", "m030x", "m060"} {
					holdAll(t, d, s)
				}
			}
		}
	}
}

func TestNamesAtTheLimit(t *testing.T) {
	full := diskOf(manyNames("m", 0, 60), manyNames("m", 30, 60))
	for _, s := range []string{"a", "m029x", "m060", "z"} {
		if x, ok := impl.WriteName(full, s, nil); ok || !sameDisk(x, full) {
			t.Errorf("%s is a 61st name: %v", s, ok)
		}
	}
	for _, s := range []string{"m000", "m031", "m059"} {
		x, ok := impl.WriteName(full, s, []byte("again"))
		if b, there := impl.ReadName(x, s); !ok || !there || string(b) != "again" || len(x.Now) != 60 {
			t.Errorf("%s is there: %v %q", s, ok, x)
		}
	}
	less, _ := impl.RemoveName(full, "m059")
	if x, ok := impl.WriteName(less, "z", nil); !ok || len(x.Now) != 60 {
		t.Error("a 60th name", ok)
	}
	// m000 is not sure yet, m030 is, m089 is gone from Now.
	if x, ok := impl.SyncName(full, "m000"); ok || !sameDisk(x, full) {
		t.Error("a 61st one is made sure", ok)
	}
	if x, ok := impl.SyncName(full, "m030"); !ok || len(x.Sure) != 60 || string(x.Sure[0].Bytes) != "30" {
		t.Errorf("one that is sure is made sure again: %v %q", ok, x)
	}
	x, ok := impl.SyncName(full, "m089")
	if !ok || len(x.Sure) != 59 {
		t.Error("a removal is made sure", ok)
	}
	if y, ok := impl.SyncName(x, "m000"); !ok || len(y.Sure) != 60 || y.Sure[0].Name != "m000" {
		t.Error("a 60th one is made sure", ok)
	}
}

func TestACrashThatWouldLeaveTooMany(t *testing.T) {
	apart := diskOf(manyNames("a", 0, 60), manyNames("b", 0, 60))
	flags := func(parts ...int) []bool {
		var out []bool
		for i, n := range parts {
			out = append(out, slices.Repeat([]bool{i%2 == 0}, n)...)
		}
		return out
	}
	for _, x := range []struct {
		why  string
		d    impl.Disk
		keep []bool
		want int
	}{
		{"all of Sure", apart, nil, 60},
		{"all of Sure, told", apart, flags(0, 120), 60},
		{"all of Now", apart, flags(120), 60},
		{"all of both", apart, flags(60, 60), -1},
		{"all of both, the half told", apart, flags(60), -1},
		{"none of both", apart, flags(0, 60, 60), 0},
		{"one of Now more", apart, flags(1), -1},
		{"one of Now for one of Sure", apart, flags(1, 118, 1), 60},
		{"two of Now for one of Sure", apart, flags(2, 117, 1), -1},
		{"one of Now for two of Sure", apart, flags(1, 117, 2), 59},
		{"60 and one beside", diskOf(manyNames("a", 0, 1), manyNames("b", 0, 60)), flags(1), -1},
		{"59 and one beside", diskOf(manyNames("a", 0, 1), manyNames("b", 0, 59)), flags(1), 60},
		{"one beside 60", diskOf(manyNames("a", 0, 60), manyNames("b", 0, 1)), flags(60), -1},
		{"one beside 59", diskOf(manyNames("a", 0, 59), manyNames("b", 0, 1)), flags(59), 60},
		{"60 that are the same", diskOf(manyNames("a", 0, 60), manyNames("a", 0, 60)), flags(30, 30), 60},
	} {
		got := holdFall(t, x.d, x.keep...)
		if x.want < 0 && !sameDisk(got, x.d) {
			t.Errorf("%s: is not as it was: %q", x.why, got)
		}
		if x.want >= 0 && (len(got.Now) != x.want || !sameList(got.Now, got.Sure)) {
			t.Errorf("%s: %d and %d names, not %d", x.why, len(got.Now), len(got.Sure), x.want)
		}
	}
}

func TestBytesByTheirCount(t *testing.T) {
	for n, right := range map[int]bool{0: true, 1: true, 255: true, 256: true, 399: true, 400: true, 401: false, 402: false, 656: false, 5000: false} {
		data := string(someBytes(n, uint32(n)))
		for _, d := range []impl.Disk{
			diskOf(onDisk{"x": data}, nil), diskOf(nil, onDisk{"x": data}), diskOf(onDisk{"x": data}, onDisk{"x": data}),
			diskOf(onDisk{"a": "1", "x": data, "y": ""}, onDisk{"a": "1"}), diskOf(onDisk{"a": "1"}, onDisk{"w": "", "x": data}),
		} {
			if impl.DiskOk(d) != right {
				t.Errorf("DiskOk with %d bytes: %v", n, !right)
			}
			for _, s := range []string{"a", "b", "x", "y"} {
				holdAll(t, d, s)
			}
		}
		for _, d := range []impl.Disk{{}, diskOf(onDisk{"x": "was"}, onDisk{"x": "was"}), diskOf(manyNames("m", 0, 59), nil)} {
			if _, ok := impl.WriteName(d, "x", []byte(data)); ok != right {
				t.Errorf("%d bytes are written: %v", n, ok)
			}
			x := holdWrite(t, d, "x", data)
			holdSync(t, x, "x")
			holdFall(t, x, slices.Repeat([]bool{true}, 60)...)
		}
	}
	if x, ok := impl.WriteName(impl.Disk{}, "x", nil); !ok || len(x.Now) != 1 || x.Now[0].Name != "x" || len(x.Now[0].Bytes) != 0 {
		t.Errorf("no bytes: %q %v", x, ok)
	}
}

// wrongDisks holds disks of which one list is not right, and the reason.
func wrongDisks() map[string]impl.Disk {
	out := map[string]impl.Disk{}
	for why, l := range map[string][]impl.Named{
		"a name twice":               {named("a", "1"), named("a", "2")},
		"a name twice, alike":        {named("a", "1"), named("a", "1")},
		"a name twice, apart":        {named("a", "1"), named("b", "2"), named("a", "3")},
		"the last name twice":        {named("a", "1"), named("b", "2"), named("b", "3")},
		"names fall":                 {named("b", "1"), named("a", "2")},
		"the last two fall":          {named("a", "1"), named("c", "2"), named("b", "3")},
		"a beginning behind":         {named("ab", "1"), named("a", "2")},
		"ordered by length":          {named("b", "1"), named("aa", "2")},
		"an empty name":              {named("", "1")},
		"an empty name ahead":        {named("", "1"), named("a", "2")},
		"a great letter":             {named("A", "1")},
		"a great letter ahead":       {named("A", "1"), named("a", "2")},
		"a name of 21":               {named(strings.Repeat("a", 21), "1")},
		"a name of 21 behind":        {named("a", "2"), named(strings.Repeat("a", 21), "1")},
		"a blank":                    {named("a b", "1")},
		"a byte of none":             {named("a\xff", "1")},
		"too many bytes":             {named("a", strings.Repeat("x", 401))},
		"too many bytes at the last": {named("a", "1"), named("b", strings.Repeat("x", 401))},
		"too many":                   listOf(manyNames("m", 0, 61)),
		"far too many":               listOf(manyNames("m", 0, 121)),
		"all the same":               slices.Repeat([]impl.Named{named("a", "1")}, 60),
		"none with a name":           make([]impl.Named, 3),
	} {
		right := listOf(onDisk{"a": "right", "b": ""})
		out[why+" in Now"] = impl.Disk{Now: l}
		out[why+" in Now, Sure right"] = impl.Disk{Now: l, Sure: right}
		out[why+" in Sure"] = impl.Disk{Sure: l}
		out[why+" in Sure, Now right"] = impl.Disk{Now: right, Sure: l}
		out[why+" in both"] = impl.Disk{Now: l, Sure: l}
	}
	return out
}

func TestDisksThatAreNotRight(t *testing.T) {
	for why, d := range wrongDisks() {
		if impl.DiskOk(d) || diskRight(d) {
			t.Errorf("%s: is right", why)
		}
		for _, s := range []string{"a", "b", "m000", "", "A", "a\xff", strings.Repeat("a", 21)} {
			holdAll(t, d, s)
			// Each is refused, and what is answered is what was there.
			w, written := impl.WriteName(d, s, []byte("new"))
			r, removed := impl.RemoveName(d, s)
			y, synced := impl.SyncName(d, s)
			z, turned := impl.RotBit(d, s, 0)
			if written || removed || synced || turned || !sameDisk(w, d) || !sameDisk(r, d) || !sameDisk(y, d) || !sameDisk(z, d) || !sameDisk(impl.FallDisk(d, nil), d) {
				t.Errorf("%s, %q: not as it was", why, s)
			}
		}
	}
}

func TestReadingADiskThatIsNotRight(t *testing.T) {
	long := strings.Repeat("x", 401)
	d := impl.Disk{
		Now:  []impl.Named{named("z", "first"), named("a", long), named("z", "second"), named("", "empty"), named("A b", "none"), named("a", "short"), {Name: "nil"}},
		Sure: []impl.Named{named("z", "sure"), named("only", "sure")},
	}
	for _, x := range []struct {
		name, want string
		ok         bool
	}{
		{"z", "first", true}, {"a", long, true}, {"", "empty", true}, {"A b", "none", true}, {"nil", "", true},
		{"only", "", false}, {"zz", "", false}, {"A", "", false}, {"Z", "", false},
	} {
		holdRead(t, d, x.name)
		if b, ok := impl.ReadName(d, x.name); ok != x.ok || string(b) != x.want {
			t.Errorf("%q: %q %v", x.name, b, ok)
		}
	}
	if b, ok := impl.ReadName(impl.Disk{}, ""); ok || len(b) != 0 {
		t.Errorf("of nothing: %q %v", b, ok)
	}
	many := impl.Disk{Now: listOf(manyNames("m", 0, 999))}
	if b, ok := impl.ReadName(many, "m998"); !ok || string(b) != "998" {
		t.Errorf("the last one of many: %q %v", b, ok)
	}
}

func TestEachBitRots(t *testing.T) {
	for _, data := range []string{"x", "\x00", "\xff\x00", "some bytes", string(someBytes(400, 5))} {
		other := data[1:] + "~"
		for _, d := range []impl.Disk{
			diskOf(onDisk{"a": data, "n": data, "z": data}, onDisk{"a": data, "n": data, "z": data}),
			diskOf(onDisk{"a": data, "n": data, "z": data}, onDisk{"a": data, "n": other, "z": data}),
			diskOf(onDisk{"n": data}, onDisk{"n": data[1:]}),
			diskOf(onDisk{"n": data}, onDisk{"n": ""}),
			diskOf(onDisk{"n": data}, onDisk{"m": data, "nn": data}),
			diskOf(onDisk{"n": data}, nil),
		} {
			for bit := range len(data) * 8 {
				if len(data) > 20 && bit > 20 && bit < 3180 && bit%61 > 0 {
					continue
				}
				x := holdRot(t, d, "n", bit)
				if back := holdRot(t, x, "n", bit); !sameDisk(back, d) {
					t.Fatalf("the bit %d of %q, twice: %q", bit, d, back)
				}
			}
			for _, bit := range []int{-1, -8, math.MinInt, len(data) * 8, len(data)*8 + 1, len(data) * 9, math.MaxInt, math.MaxInt - 7} {
				if x, ok := impl.RotBit(d, "n", bit); ok || !sameDisk(x, d) {
					t.Errorf("the bit %d of %q: %q", bit, d, x)
				}
				holdRot(t, d, "n", bit)
			}
		}
	}
}

func TestBitsByExamples(t *testing.T) {
	for _, x := range []struct {
		now, sure string
		bit       int
		ok        bool
		behind    string
		sureNow   string
	}{
		{"abc", "abc", 0, true, "`bc", "`bc"},
		{"abc", "abc", 7, true, "\xe1bc", "\xe1bc"},
		{"abc", "abc", 8, true, "acc", "acc"},
		{"abc", "abc", 23, true, "ab\xe3", "ab\xe3"},
		{"abc", "abd", 0, true, "`bc", "abd"},
		{"abc", "ab", 0, true, "`bc", "ab"},
		{"abc", "abcd", 1, true, "cbc", "abcd"},
		{"abc", "", 0, true, "`bc", ""},
		{"abc", "abc", 24, false, "abc", "abc"},
		{"abc", "abc", -1, false, "abc", "abc"},
		{"abc", "abcd", 24, false, "abc", "abcd"},
		{"", "", 0, false, "", ""},
		{"", "abc", 0, false, "", "abc"},
	} {
		d := diskOf(onDisk{"n": x.now}, onDisk{"n": x.sure})
		got, ok := impl.RotBit(d, "n", x.bit)
		if ok != x.ok || !sameDisk(got, diskOf(onDisk{"n": x.behind}, onDisk{"n": x.sureNow})) {
			t.Errorf("the bit %d of %q: %q %v", x.bit, d, got, ok)
		}
	}
	if x, ok := impl.RotBit(diskOf(nil, onDisk{"n": "abc"}), "n", 0); ok || len(x.Now) != 0 || string(x.Sure[0].Bytes) != "abc" {
		t.Errorf("in Sure alone: %q", x)
	}
}

// By the words Sure's is turned if it was the same: so once a turned bit has made them the same, they go on together.
func TestABitThatMakesThemTheSame(t *testing.T) {
	d := diskOf(onDisk{"n": "abc"}, onDisk{"n": "`bc"})
	once := holdRot(t, d, "n", 0)
	if !sameDisk(once, diskOf(onDisk{"n": "`bc"}, onDisk{"n": "`bc"})) {
		t.Errorf("once: %q", once)
	}
	if twice := holdRot(t, once, "n", 0); !sameDisk(twice, diskOf(onDisk{"n": "abc"}, onDisk{"n": "abc"})) {
		t.Errorf("twice: %q", twice)
	}
}

// A disk goes on from what was answered, and is held against the document's words at each step.
func TestDisksGoOn(t *testing.T) {
	longest := 0
	for seed := range uint32(60) {
		d := impl.Disk{}
		mix := someBytes(4*150, seed+900)
		for step := range 150 {
			kind, at, more := mix[4*step], mix[4*step+1], mix[4*step+2]
			s := fmt.Sprintf("n%d", int(at)%(3+int(seed)*2))
			switch kind % 8 {
			case 0, 1, 2:
				d = holdWrite(t, d, s, string(mix[step:step+int(more)%40]))
			case 3:
				d = holdRemove(t, d, s)
			case 4, 5:
				d = holdSync(t, d, s)
			case 6:
				d = holdRot(t, d, s, int(more)-3)
			case 7:
				var keep []bool
				for i := range int(more) % 80 {
					keep = append(keep, mix[i]%3 > 0)
				}
				x := holdFall(t, d, keep...)
				if kind%16 == 7 {
					d = x
				}
			}
			holdRead(t, d, s)
			longest = max(longest, len(d.Now))
		}
	}
	if longest < 20 {
		t.Error("no disk has many names:", longest)
	}
}

func TestFullDisksGoOn(t *testing.T) {
	for seed := range uint32(8) {
		d := diskOf(manyNames("m", 0, 58), manyNames("m", 20+int(seed), 59))
		mix := someBytes(400, seed+77)
		for step := range 100 {
			s := fmt.Sprintf("m%03d", int(mix[4*step+1])%90)
			switch mix[4*step] % 5 {
			case 0, 1:
				d = holdWrite(t, d, s, fmt.Sprint(step))
			case 2:
				d = holdRemove(t, d, s)
			case 3, 4:
				d = holdSync(t, d, s)
			}
		}
	}
}

// The lists that are handed in may share memory with each other, and the bytes with both: what is answered shares none.
func TestADiskWhoseListsAreOne(t *testing.T) {
	b := []byte("one for all")
	l := []impl.Named{{Name: "a", Bytes: b}, {Name: "b", Bytes: b}, {Name: "c", Bytes: b}}
	d := impl.Disk{Now: l, Sure: l[:2]}
	kept := wholeDisk(d)
	calls := map[string]func() impl.Disk{
		"written":   func() impl.Disk { x, _ := impl.WriteName(d, "d", b); return x },
		"again":     func() impl.Disk { x, _ := impl.WriteName(d, "a", b[:3]); return x },
		"refused":   func() impl.Disk { x, _ := impl.WriteName(d, "D", b); return x },
		"removed":   func() impl.Disk { x, _ := impl.RemoveName(d, "a"); return x },
		"not there": func() impl.Disk { x, _ := impl.RemoveName(d, "e"); return x },
		"synced":    func() impl.Disk { x, _ := impl.SyncName(d, "c"); return x },
		"unsynced":  func() impl.Disk { x, _ := impl.SyncName(d, "E"); return x },
		"fallen":    func() impl.Disk { return impl.FallDisk(d, []bool{true, false, true}) },
		"not right": func() impl.Disk { return impl.FallDisk(impl.Disk{Now: slices.Repeat(l, 2), Sure: l}, nil) },
		"turned":    func() impl.Disk { x, _ := impl.RotBit(d, "b", 3); return x },
		"no bit":    func() impl.Disk { x, _ := impl.RotBit(d, "b", 88); return x },
	}
	for why, call := range calls {
		x := call()
		ownMemory(t, why, x)
		if wholeDisk(d) != kept || string(b) != "one for all" {
			t.Fatalf("%s: written into: %q", why, d)
		}
	}
	x, _ := impl.RotBit(d, "b", 0)
	for _, y := range slices.Concat(x.Now, x.Sure) {
		if (string(y.Bytes) == "nne for all") != (y.Name == "b") {
			t.Errorf("one name of three is turned: %q", x)
		}
	}
}

func TestFallenListsAreTwo(t *testing.T) {
	d := diskOf(onDisk{"a": "now", "b": "b"}, onDisk{"a": "sure"})
	x := impl.FallDisk(d, []bool{true, true})
	x.Now[0].Bytes[0] = '!'
	x.Now[1] = named("z", "z")
	if !sameList(x.Sure, listOf(onDisk{"a": "now", "b": "b"})) || !sameDisk(d, diskOf(onDisk{"a": "now", "b": "b"}, onDisk{"a": "sure"})) {
		t.Errorf("a write into Now is seen in Sure or in the argument: %q %q", x, d)
	}
	y, _ := impl.SyncName(d, "a")
	y.Now[0].Bytes[0] = '!'
	if string(y.Sure[0].Bytes) != "now" || string(d.Now[0].Bytes) != "now" {
		t.Errorf("what was made sure is Now's own: %q %q", y, d)
	}
}

package tests

import (
	"fmt"
	"slices"
	"strings"
	"testing"

	"loop.example/g00241/impl"
)

// timed is a file of this time whose Data tell it, so that two of them are never taken for each other.
func timed(time int) impl.File {
	return file(impl.Stamp{Time: time}, fmt.Sprint("at ", time))
}

// bytesAt is what a disk holds of such a file.
func bytesAt(time int) string { return bytesRight(timed(time)) }

// turned has one bit of bytes turned.
func turned(b string, bit int) string {
	x := []byte(b)
	x[bit/8] ^= 1 << (bit % 8)
	return string(x)
}

// rottenBytes holds bytes that are no file: none, words, one bit turned at several places, cut, and longer ones, up to the most that a disk takes.
func rottenBytes() []string {
	whole := bytesAt(7)
	return []string{
		"", "\x00", "words", whole[1:], whole[:len(whole)-1], whole + "\x00", whole + whole, turned(whole, 0), turned(whole, 13), turned(whole, len(whole)*8-1),
		bytesRight(impl.File{})[:8], sealed(bodyOf(5, 1, 21, 0, 1, "x")), sealed(bodyOf(5, 1, 2, 1, 1, "x")), strings.Repeat("\x00", 400), strings.Repeat("f", 400),
	}
}

// manyFiles makes a file for each of n names that begin alike.
func manyFiles(prefix string, from, n int) onDisk {
	m := onDisk{}
	for name := range manyNames(prefix, from, n) {
		m[name] = bytesAt(50)
	}
	return m
}

// lookRight, heldRight, cleanRight and keepRight are the document's own rules, written apart from the program's way.
func lookRight(d impl.Disk, s string) (impl.File, int) {
	for _, x := range d.Now {
		if x.Name == s {
			f, ok := fileRead(string(x.Bytes))
			if !ok {
				return impl.File{}, impl.LookBad
			}
			return f, impl.LookGood
		}
	}
	return impl.File{}, impl.LookNone
}

func heldRight(d impl.Disk) []string {
	var names []string
	for _, x := range d.Now {
		if _, looks := lookRight(d, x.Name); looks == impl.LookGood {
			names = append(names, x.Name)
		}
	}
	slices.Sort(names)
	return slices.Compact(names)
}

func cleanRight(d impl.Disk) (impl.Disk, int) {
	now, sure, n := onDiskOf(d.Now), onDiskOf(d.Sure), 0
	if !diskRight(d) {
		return d, 0
	}
	for _, x := range d.Now {
		if _, ok := fileRead(string(x.Bytes)); !ok {
			delete(now, x.Name)
			delete(sure, x.Name)
			n++
		}
	}
	return diskOf(now, sure), n
}

func keepRight(d impl.Disk, s string, f impl.File, sure bool) (impl.Disk, int) {
	if !diskRight(d) || !nameRight(s) || !fileRight(f) {
		return d, impl.KeepForm
	}
	now, made, code := onDiskOf(d.Now), onDiskOf(d.Sure), impl.KeepOld
	was, looks := lookRight(d, s)
	if looks != impl.LookGood || stampOrder(f.Stamp, was.Stamp) > 0 {
		now[s], code = bytesRight(f), impl.KeepGood
	}
	if sure {
		made[s] = now[s]
	}
	if len(now) > 60 || len(made) > 60 {
		return d, impl.KeepFull
	}
	return diskOf(now, made), code
}

// holdKeep asks for all that the chapter says of one Keep, and tells what it answers.
func holdKeep(t *testing.T, d impl.Disk, s string, f impl.File, sure bool) (impl.Disk, int) {
	t.Helper()
	room := append(append([]byte("ahead"), f.Data...), "behind"...)
	kept := string(room)
	arg := impl.File{Stamp: f.Stamp, Dead: f.Dead, Data: room[5 : 5+len(f.Data)]}
	want, wantCode := keepRight(d, s, f, sure)
	got := -1
	x := holdCall(t, fmt.Sprintf("Keep %q of %v, sure %v", s, f, sure), d, func(d impl.Disk) (impl.Disk, bool) {
		x, code := impl.Keep(d, s, arg, sure)
		got = code
		return x, code == wantCode
	}, want, true)
	if string(room) != kept {
		t.Fatalf("Keep %q of %v: its Data are written into, or shared: %q", s, f, room)
	}
	return x, got
}

func holdLook(t *testing.T, d impl.Disk, s string) int {
	t.Helper()
	arg := roomyDisk(d)
	kept := wholeDisk(arg)
	want, wantCode := lookRight(d, s)
	f, code := impl.Look(arg, s)
	if code != wantCode || !sameFile(f, want) {
		t.Fatalf("Look %q of %q: %v %d, not %v %d", s, d, f, code, want, wantCode)
	}
	fill(f.Data, 99)
	if again, _ := impl.Look(arg, s); wholeDisk(arg) != kept || !sameFile(again, want) {
		t.Fatalf("Look %q of %q: shared or written into: %q", s, d, arg)
	}
	return code
}

func holdHeld(t *testing.T, d impl.Disk) []string {
	t.Helper()
	arg := roomyDisk(d)
	kept := wholeDisk(arg)
	want := heldRight(d)
	names := impl.Held(arg)
	if !slices.Equal(names, want) {
		t.Fatalf("Held of %q: %q, not %q", d, names, want)
	}
	for i := range names[:cap(names)] {
		names[:cap(names)][i] = "zz"
	}
	if wholeDisk(arg) != kept || !slices.Equal(impl.Held(arg), want) {
		t.Fatalf("Held of %q: shared or written into: %q", d, arg)
	}
	return want
}

func holdClean(t *testing.T, d impl.Disk) (impl.Disk, int) {
	t.Helper()
	want, wantCount := cleanRight(d)
	got := -1
	x := holdCall(t, "Clean", d, func(d impl.Disk) (impl.Disk, bool) {
		x, n := impl.Clean(d)
		got = n
		return x, n == wantCount
	}, want, true)
	return x, got
}

// holdObjects asks each function of the chapter at one disk.
func holdObjects(t *testing.T, d impl.Disk, s string, files ...impl.File) {
	t.Helper()
	holdLook(t, d, s)
	holdHeld(t, d)
	holdClean(t, d)
	for _, f := range files {
		holdKeep(t, d, s, f, false)
		holdKeep(t, d, s, f, true)
	}
}

// objectDisks holds each disk of these names, where each is in Now and in Sure not there, an elder file, a later one, or rotten.
func objectDisks(names ...string) []impl.Disk {
	states := []string{"", bytesAt(3), bytesAt(5), turned(bytesAt(9), 3)}
	out := []impl.Disk{{}}
	for _, name := range names {
		var more []impl.Disk
		for _, d := range out {
			for state := range 16 {
				now, sure := onDiskOf(d.Now), onDiskOf(d.Sure)
				if state%4 > 0 {
					now[name] = states[state%4]
				}
				if state/4 > 0 {
					sure[name] = states[state/4]
				}
				more = append(more, diskOf(now, sure))
			}
		}
		out = more
	}
	return out
}

func TestCodesOfObjects(t *testing.T) {
	if !slices.Equal([]int{impl.KeepGood, impl.KeepOld, impl.KeepForm, impl.KeepFull, impl.LookGood, impl.LookNone, impl.LookBad}, []int{0, 1, 2, 3, 0, 1, 2}) {
		t.Error(impl.KeepGood, impl.KeepOld, impl.KeepForm, impl.KeepFull, impl.LookGood, impl.LookNone, impl.LookBad)
	}
}

// is asks what Look tells of a name.
func is(t *testing.T, why string, d impl.Disk, s string, want impl.File) {
	t.Helper()
	if f, looks := impl.Look(d, s); looks != impl.LookGood || !sameFile(f, want) {
		t.Errorf("%s: %q is %v %d, not %v", why, s, f, looks, want)
	}
}

func TestTheLaterOneStays(t *testing.T) {
	forms := func(s impl.Stamp, data string) []impl.File {
		return []impl.File{file(s, data), deadFile(s), file(s, "")}
	}
	for _, a := range rightStamps() {
		for _, b := range rightStamps() {
			for _, first := range forms(a, "first") {
				for _, second := range forms(b, "second") {
					d, one := impl.Keep(impl.Disk{}, "n", first, false)
					x, two := impl.Keep(d, "n", second, false)
					want, wantCode := first, impl.KeepOld
					if stampOrder(b, a) > 0 {
						want, wantCode = second, impl.KeepGood
					}
					is(t, "the later one", x, "n", want)
					if one != impl.KeepGood || two != wantCode || len(x.Now) != 1 || len(x.Sure) != 0 {
						t.Errorf("%v behind %v: %d %d", second, first, one, two)
					}
				}
			}
		}
	}
}

func TestWhicheverComesFirstTheLaterOneStays(t *testing.T) {
	for time := range 6 {
		for other := range 6 {
			for _, sure := range []bool{false, true} {
				d, _ := holdKeep(t, impl.Disk{}, "n", timed(time), sure)
				d, code := holdKeep(t, d, "n", timed(other), sure)
				is(t, "of two", d, "n", timed(max(time, other)))
				if (code == impl.KeepGood) != (other > time) || (code == impl.KeepOld) != (other <= time) {
					t.Errorf("%d behind %d: %d", other, time, code)
				}
				holdLook(t, d, "n")
			}
		}
	}
	// In any order of four, what stays is the last one by its Stamp.
	for mix := range 256 {
		d := impl.Disk{}
		latest := 0
		for at := range 4 {
			time := 1 + mix>>(2*at)%4
			latest = max(latest, time)
			d, _ = holdKeep(t, d, "n", timed(time), mix%3 == at%3)
			is(t, "of four", d, "n", timed(latest))
		}
	}
}

// The Stamps decide alone: what else a file holds counts for nothing.
func TestTheSameStampIsOld(t *testing.T) {
	for _, s := range rightStamps() {
		files := []impl.File{file(s, "data"), deadFile(s), file(s, ""), file(s, "zz"), file(s, strings.Repeat("z", 200))}
		for _, first := range files {
			d, _ := holdKeep(t, impl.Disk{}, "n", first, false)
			for _, second := range files {
				x, code := holdKeep(t, d, "n", second, false)
				if code != impl.KeepOld || !sameDisk(x, d) {
					t.Errorf("%v behind %v: %d, %q", second, first, code, x)
				}
				x, code = holdKeep(t, d, "n", second, true)
				if code != impl.KeepOld || !sameDisk(x, impl.Disk{Now: d.Now, Sure: d.Now}) {
					t.Errorf("%v behind %v, for sure: %d, %q", second, first, code, x)
				}
			}
		}
	}
}

func TestNamesAreKeptApart(t *testing.T) {
	d := impl.Disk{}
	for i, s := range []string{"m", "a", "z", "m/", "m-", "0"} {
		d, _ = holdKeep(t, d, s, timed(20-i), i%2 == 0)
	}
	for i, s := range []string{"m", "a", "z", "m/", "m-", "0"} {
		is(t, "by itself", d, s, timed(20-i))
		x, code := holdKeep(t, d, s, timed(30), true)
		is(t, "a later one", x, s, timed(30))
		for k, other := range []string{"m", "a", "z", "m/", "m-", "0"} {
			if k != i {
				is(t, "beside it", x, other, timed(20-k))
			}
		}
		if code != impl.KeepGood || len(x.Now) != 6 {
			t.Errorf("%s: %d", s, code)
		}
	}
	if names := holdHeld(t, d); !slices.Equal(names, []string{"0", "a", "m", "m-", "m/", "z"}) {
		t.Errorf("held: %q", names)
	}
	if len(d.Sure) != 3 {
		t.Errorf("sure: %q", d.Sure)
	}
}

func TestKeepIsHeldToTheDocumentAtSmallDisks(t *testing.T) {
	for _, d := range objectDisks("b", "d") {
		for _, s := range []string{"a", "b", "c", "d", "e", "", "B"} {
			holdObjects(t, d, s, timed(2), timed(4), timed(5), deadFile(impl.Stamp{Time: 6}), impl.File{})
		}
	}
}

func TestWhatWasKeptForSureIsThereBehindAnyCrash(t *testing.T) {
	keeps := allKeeps(4)
	for _, d := range objectDisks("b", "d") {
		for _, s := range []string{"a", "b", "c", "d", "e"} {
			for _, f := range []impl.File{timed(2), timed(3), timed(4), timed(6), deadFile(impl.Stamp{Time: 4}), {}} {
				x, code := impl.Keep(d, s, f, true)
				if code != impl.KeepGood && code != impl.KeepOld {
					t.Fatalf("Keep %q of %q: %d", s, d, code)
				}
				want, _ := impl.Look(x, s)
				if stampOrder(want.Stamp, f.Stamp) < 0 || code == impl.KeepGood && !sameFile(want, f) {
					t.Fatalf("Keep %q of %q: %v", s, d, want)
				}
				for _, keep := range keeps {
					is(t, "behind a crash", impl.FallDisk(x, keep), s, want)
				}
			}
		}
	}
}

// What comes behind what was made sure, sure or not, can't bring back less.
func TestMoreIsKeptBehindWhatIsSure(t *testing.T) {
	for _, first := range []int{2, 5} {
		for _, second := range []int{1, 5, 8} {
			for _, third := range []int{3, 5, 9} {
				d, _ := holdKeep(t, impl.Disk{}, "n", timed(first), true)
				d, _ = holdKeep(t, d, "n", timed(second), false)
				d, _ = holdKeep(t, d, "m", timed(third), second == 5)
				d, _ = holdKeep(t, d, "n", timed(third), false)
				for _, keep := range allKeeps(3) {
					f, looks := impl.Look(impl.FallDisk(d, keep), "n")
					if looks != impl.LookGood || f.Stamp.Time < first {
						t.Errorf("%d for sure, %d and %d behind it, %v: %v %d", first, second, third, keep, f, looks)
					}
				}
			}
		}
	}
}

// One that is old asks for sure as well: what stays is as sure as the one itself would be.
func TestAnElderOneKeptForSureSyncsWhatStays(t *testing.T) {
	d, _ := holdKeep(t, impl.Disk{}, "n", timed(5), false)
	if x := impl.FallDisk(d, nil); len(impl.Held(x)) != 0 {
		t.Errorf("not sure yet: %q", x)
	}
	for _, time := range []int{0, 4, 5} {
		x, code := holdKeep(t, d, "n", timed(time), true)
		if code != impl.KeepOld || !sameDisk(x, diskOf(onDisk{"n": bytesAt(5)}, onDisk{"n": bytesAt(5)})) {
			t.Errorf("%d: %d %q", time, code, x)
		}
		for _, keep := range allKeeps(2) {
			is(t, "behind a crash", impl.FallDisk(x, keep), "n", timed(5))
		}
		if x, code = holdKeep(t, d, "n", timed(time), false); code != impl.KeepOld || !sameDisk(x, d) {
			t.Errorf("%d, not for sure: %d %q", time, code, x)
		}
	}
	// Sure holds another one, be it elder, later, rotten or none.
	for _, sure := range []onDisk{nil, {"n": bytesAt(4)}, {"n": bytesAt(9)}, {"n": "rotten"}, {"m": bytesAt(9)}} {
		x, code := holdKeep(t, diskOf(onDisk{"n": bytesAt(5)}, sure), "n", timed(3), true)
		b := onDiskOf(x.Sure)["n"]
		if code != impl.KeepOld || b != bytesAt(5) {
			t.Errorf("%q in Sure: %d %q", sure, code, x)
		}
		is(t, "behind a crash", impl.FallDisk(x, nil), "n", timed(5))
	}
}

func TestWhatWasKeptWithoutSure(t *testing.T) {
	d, _ := holdKeep(t, impl.Disk{}, "a", timed(5), false)
	d, _ = holdKeep(t, d, "b", timed(6), true)
	d, _ = holdKeep(t, d, "b", timed(7), false)
	for _, x := range []struct {
		keep []bool
		held []string
		b    int
	}{
		{nil, []string{"b"}, 6}, {[]bool{false}, []string{"b"}, 6}, {[]bool{false, false}, []string{"b"}, 6}, {[]bool{true}, []string{"a", "b"}, 6},
		{[]bool{true, false}, []string{"a", "b"}, 6}, {[]bool{false, true}, []string{"b"}, 7}, {[]bool{true, true}, []string{"a", "b"}, 7},
	} {
		y := impl.FallDisk(d, x.keep)
		if names := impl.Held(y); !slices.Equal(names, x.held) {
			t.Errorf("%v: %q", x.keep, names)
		}
		is(t, fmt.Sprint(x.keep), y, "b", timed(x.b))
		if len(x.held) == 1 && holdLook(t, y, "a") != impl.LookNone {
			t.Errorf("%v: a is there", x.keep)
		}
	}
}

func TestWhatIsRottenLooksBad(t *testing.T) {
	for i, b := range rottenBytes() {
		d := diskOf(onDisk{"a": bytesAt(1), "n": b, "z": bytesAt(2)}, nil)
		if f, looks := impl.Look(d, "n"); looks != impl.LookBad || !zeroFile(f) {
			t.Errorf("the rotten one %d: %v %d", i, f, looks)
		}
		if names := holdHeld(t, d); !slices.Equal(names, []string{"a", "z"}) {
			t.Errorf("the rotten one %d is held: %q", i, names)
		}
		for _, s := range []string{"a", "n", "z", "nn", ""} {
			holdLook(t, d, s)
		}
	}
}

func TestOneTurnedBitIsRotten(t *testing.T) {
	for _, f := range []impl.File{{}, timed(7), deadFile(greatStamp())} {
		d, _ := impl.Keep(impl.Disk{}, "a", timed(1), true)
		d, _ = impl.Keep(d, "n", f, true)
		for bit := range len(bytesRight(f)) * 8 {
			x, ok := impl.RotBit(d, "n", bit)
			y, n := impl.Clean(x)
			if !ok || holdLook(t, x, "n") != impl.LookBad || !slices.Equal(holdHeld(t, x), []string{"a"}) || n != 1 || len(y.Now) != 1 || len(y.Sure) != 1 {
				t.Errorf("the bit %d of %v: %v, %d are gone of %q", bit, f, ok, n, x)
			}
			back, _ := impl.RotBit(x, "n", bit)
			is(t, "turned back", back, "n", f)
		}
	}
}

func TestWhatIsRottenGivesWayToAnyFile(t *testing.T) {
	for i, b := range rottenBytes() {
		for _, f := range []impl.File{{}, deadFile(impl.Stamp{}), timed(0), timed(1), timed(7), deadFile(impl.Stamp{Time: 6}), file(greatStamp(), strings.Repeat("g", 200))} {
			for _, sure := range []bool{false, true} {
				d := diskOf(onDisk{"a": bytesAt(1), "n": b}, onDisk{"n": b, "z": bytesAt(2)})
				x, code := holdKeep(t, d, "n", f, sure)
				is(t, "in its stead", x, "n", f)
				if code != impl.KeepGood || !slices.Equal(holdHeld(t, x), []string{"a", "n"}) {
					t.Errorf("%v for the rotten one %d: %d", f, i, code)
				}
				_, looks := impl.Look(impl.FallDisk(x, nil), "n")
				if (looks == impl.LookGood) != sure {
					t.Errorf("%v for the rotten one %d, sure %v: behind a crash %d", f, i, sure, looks)
				}
			}
		}
	}
}

func TestCleanRemovesForSure(t *testing.T) {
	whole, rotten := bytesAt(5), turned(bytesAt(5), 9)
	for _, x := range []struct {
		why              string
		now, sure        onDisk
		behind, sureThen onDisk
		n                int
	}{
		{"none of none", nil, nil, nil, nil, 0},
		{"none of one", onDisk{"n": whole}, onDisk{"n": whole}, onDisk{"n": whole}, onDisk{"n": whole}, 0},
		{"one in both", onDisk{"n": rotten}, onDisk{"n": rotten}, nil, nil, 1},
		{"one in Now alone", onDisk{"n": rotten}, nil, nil, nil, 1},
		{"one that is whole in Sure", onDisk{"n": rotten}, onDisk{"n": whole}, nil, nil, 1},
		{"one that is whole in Now", onDisk{"n": whole}, onDisk{"n": rotten}, onDisk{"n": whole}, onDisk{"n": rotten}, 0},
		{"one in Sure alone", nil, onDisk{"n": rotten}, nil, onDisk{"n": rotten}, 0},
		{"whole in Sure alone", nil, onDisk{"n": whole}, nil, onDisk{"n": whole}, 0},
		{"no bytes", onDisk{"a": whole, "n": ""}, onDisk{"n": ""}, onDisk{"a": whole}, nil, 1},
		{"the first", onDisk{"a": rotten, "b": whole}, onDisk{"a": rotten, "b": whole}, onDisk{"b": whole}, onDisk{"b": whole}, 1},
		{"the last", onDisk{"a": whole, "b": rotten}, onDisk{"a": whole, "b": rotten}, onDisk{"a": whole}, onDisk{"a": whole}, 1},
		{"what is not sure stays so", onDisk{"a": whole, "n": rotten}, onDisk{"b": whole, "n": rotten}, onDisk{"a": whole}, onDisk{"b": whole}, 1},
		{"what was removed but not for sure", onDisk{"n": rotten}, onDisk{"b": rotten, "c": whole}, nil, onDisk{"b": rotten, "c": whole}, 1},
		{"what is elder in Sure", onDisk{"a": whole, "n": rotten}, onDisk{"a": bytesAt(3)}, onDisk{"a": whole}, onDisk{"a": bytesAt(3)}, 1},
		{"two side by side", onDisk{"a": rotten, "b": "", "c": whole}, onDisk{"a": whole, "b": "x", "c": ""}, onDisk{"c": whole}, onDisk{"c": ""}, 2},
		{"two apart", onDisk{"a": rotten, "b": whole, "c": "x"}, onDisk{"c": "x"}, onDisk{"b": whole}, nil, 2},
		{"all three", onDisk{"a": rotten, "b": "", "c": "x"}, onDisk{"a": rotten, "b": "", "c": "x"}, nil, nil, 3},
		{"one that is Dead is whole", onDisk{"a": bytesRight(deadFile(impl.Stamp{})), "n": rotten}, nil, onDisk{"a": bytesRight(deadFile(impl.Stamp{}))}, nil, 1},
	} {
		got, n := holdClean(t, diskOf(x.now, x.sure))
		if n != x.n || !sameDisk(got, diskOf(x.behind, x.sureThen)) {
			t.Errorf("%s: %d are gone, %q", x.why, n, got)
		}
		for name := range x.now {
			if _, stays := x.behind[name]; stays {
				continue
			}
			for _, keep := range allKeeps(4) {
				if _, looks := impl.Look(impl.FallDisk(got, keep), name); looks != impl.LookNone {
					t.Errorf("%s: %s is back behind %v: %d", x.why, name, keep, looks)
				}
			}
		}
		if again, n := holdClean(t, got); n != 0 || !sameDisk(again, got) {
			t.Errorf("%s: %d more are gone, %q", x.why, n, again)
		}
	}
}

func TestCleanOfManyNames(t *testing.T) {
	for _, each := range []int{1, 2, 3, 7, 59, 60, 61} {
		now, sure, whole := manyFiles("m", 0, 60), manyFiles("m", 20, 60), 0
		for i := range 60 {
			name := fmt.Sprintf("m%03d", i)
			if i%each == 0 {
				now[name] = rottenBytes()[i%len(rottenBytes())]
				continue
			}
			whole++
		}
		d := diskOf(now, sure)
		x, n := holdClean(t, d)
		if n != 60-whole || len(x.Now) != whole || len(holdHeld(t, d)) != whole || !slices.Equal(impl.Held(x), impl.Held(d)) {
			t.Errorf("each %dth one of 60: %d are gone", each, n)
		}
	}
}

func TestRottenInNowOrInSure(t *testing.T) {
	whole, rotten := bytesAt(5), turned(bytesAt(8), 20)
	inNow := diskOf(onDisk{"n": rotten}, onDisk{"n": whole})
	if looks := holdLook(t, inNow, "n"); looks != impl.LookBad || len(holdHeld(t, inNow)) != 0 {
		t.Error("rotten in Now:", looks)
	}
	is(t, "a crash brings back what is whole", impl.FallDisk(inNow, nil), "n", timed(5))
	// What Sure has does not count: it is Now that is read.
	x, code := holdKeep(t, inNow, "n", timed(2), false)
	is(t, "an elder one in its stead", x, "n", timed(2))
	is(t, "yet behind a crash", impl.FallDisk(x, nil), "n", timed(5))
	y, codeSure := holdKeep(t, inNow, "n", timed(2), true)
	is(t, "for sure", impl.FallDisk(y, nil), "n", timed(2))
	if code != impl.KeepGood || codeSure != impl.KeepGood {
		t.Error("rotten in Now:", code, codeSure)
	}
	inSure := diskOf(onDisk{"n": whole}, onDisk{"n": rotten})
	is(t, "rotten in Sure", inSure, "n", timed(5))
	if _, looks := impl.Look(impl.FallDisk(inSure, nil), "n"); looks != impl.LookBad || !slices.Equal(holdHeld(t, inSure), []string{"n"}) {
		t.Error("rotten in Sure, behind a crash:", looks)
	}
	if z, n := holdClean(t, inSure); n != 0 || !sameDisk(z, inSure) {
		t.Errorf("rotten in Sure, cleaned: %d %q", n, z)
	}
	for _, f := range []impl.File{timed(2), timed(5), timed(6)} {
		z, code := holdKeep(t, inSure, "n", f, true)
		is(t, "made sure again", impl.FallDisk(z, nil), "n", timed(max(5, f.Stamp.Time)))
		if (code == impl.KeepGood) != (f.Stamp.Time > 5) {
			t.Error("rotten in Sure:", f, code)
		}
		if z, _ = holdKeep(t, inSure, "n", timed(2), false); !sameDisk(z, inSure) {
			t.Errorf("an elder one, not for sure: %q", z)
		}
	}
	for _, s := range []string{"n", "m"} {
		alone := diskOf(nil, onDisk{"n": rotten})
		if holdLook(t, alone, s) != impl.LookNone || len(holdHeld(t, alone)) != 0 {
			t.Error("rotten in Sure alone:", s)
		}
	}
}

func TestKeepOfWhatIsNotRight(t *testing.T) {
	right, wrong := timed(5), []impl.File{
		{Stamp: impl.Stamp{Time: -1}}, {Stamp: impl.Stamp{Time: impl.MaxTime + 1}}, {Stamp: impl.Stamp{Seq: maxSeq + 1}}, {Stamp: impl.Stamp{Node: maxNode + 1}}, {Stamp: impl.Stamp{Node: -1}},
		{Data: make([]byte, 201)}, {Data: make([]byte, 5000)}, {Dead: true, Data: []byte("x")}, {Dead: true, Data: []byte{0}},
	}
	full := diskOf(manyFiles("m", 0, 60), manyFiles("m", 30, 60))
	for _, d := range []impl.Disk{{}, diskOf(onDisk{"n": bytesAt(9)}, onDisk{"n": bytesAt(3)}), diskOf(onDisk{"n": "rotten"}, nil), full} {
		for _, sure := range []bool{false, true} {
			for _, f := range wrong {
				for _, s := range []string{"n", "a", "m000", "N"} {
					if x, code := holdKeep(t, d, s, f, sure); code != impl.KeepForm || !sameDisk(x, d) {
						t.Errorf("%v is kept: %d", f, code)
					}
				}
			}
			for _, s := range texts() {
				if x, code := holdKeep(t, d, s, right, sure); (code == impl.KeepForm) == nameRight(s) || code == impl.KeepForm && !sameDisk(x, d) {
					t.Errorf("%q is kept: %d", s, code)
				}
			}
		}
	}
	// Each limit that is met is right.
	for _, f := range []impl.File{{}, file(greatStamp(), strings.Repeat("g", 200)), deadFile(greatStamp())} {
		for _, s := range []string{"n", strings.Repeat("n", 20)} {
			if _, code := holdKeep(t, diskOf(onDisk{"a": strings.Repeat("x", 400)}, nil), s, f, true); code != impl.KeepGood {
				t.Errorf("%q of %v: %d", s, f, code)
			}
		}
	}
}

func TestObjectsOnDisksThatAreNotRight(t *testing.T) {
	for why, d := range wrongDisks() {
		for _, s := range []string{"a", "b", "m000", "", "A", strings.Repeat("a", 21)} {
			holdObjects(t, d, s, impl.File{}, timed(5), impl.File{Data: make([]byte, 201)})
			for _, sure := range []bool{false, true} {
				if x, code := impl.Keep(d, s, timed(5), sure); code != impl.KeepForm || !sameDisk(x, d) {
					t.Errorf("%s, %q: %d", why, s, code)
				}
			}
		}
		if x, n := impl.Clean(d); n != 0 || !sameDisk(x, d) {
			t.Errorf("%s is cleaned: %d", why, n)
		}
		if f, looks := impl.Look(d, "nowhere"); looks != impl.LookNone || !zeroFile(f) {
			t.Errorf("%s: %v %d", why, f, looks)
		}
	}
}

// By the words Look and Held go by ReadName, which takes a disk as it stands: the first one of a name.
func TestLookAndHeldAtADiskThatIsNotRight(t *testing.T) {
	one, two := bytesAt(1), bytesAt(2)
	d := impl.Disk{
		Now: []impl.Named{
			named("z", one), named("b", "rotten"), named("a", two), named("z", two), named("b", one), named("a", "rotten"), named("", one), named("A b", two), named("", two),
			named("long", strings.Repeat("x", 401)), {Name: "nil"},
		},
		Sure: []impl.Named{named("only", one)},
	}
	for _, x := range []struct {
		name  string
		looks int
		time  int
	}{
		{"z", impl.LookGood, 1}, {"b", impl.LookBad, 0}, {"a", impl.LookGood, 2}, {"", impl.LookGood, 1}, {"A b", impl.LookGood, 2}, {"long", impl.LookBad, 0},
		{"nil", impl.LookBad, 0}, {"only", impl.LookNone, 0}, {"zz", impl.LookNone, 0}, {"A", impl.LookNone, 0},
	} {
		if looks := holdLook(t, d, x.name); looks != x.looks {
			t.Errorf("%q: %d", x.name, looks)
		}
		if x.looks == impl.LookGood {
			is(t, "the first one", d, x.name, timed(x.time))
		}
	}
	if names := holdHeld(t, d); !slices.Equal(names, []string{"", "A b", "a", "z"}) {
		t.Errorf("held: %q", names)
	}
	many := diskOf(manyFiles("m", 0, 300), nil)
	if names := holdHeld(t, many); len(names) != 300 || holdLook(t, many, "m299") != impl.LookGood {
		t.Errorf("of many: %d", len(names))
	}
}

func TestNothingThere(t *testing.T) {
	for _, d := range []impl.Disk{{}, {Now: []impl.Named{}, Sure: []impl.Named{}}, diskOf(nil, manyFiles("m", 0, 60))} {
		for _, s := range append(texts(), "m000") {
			if f, looks := impl.Look(d, s); looks != impl.LookNone || !zeroFile(f) {
				t.Errorf("%q: %v %d", s, f, looks)
			}
		}
		if names := holdHeld(t, d); len(names) != 0 {
			t.Errorf("held: %q", names)
		}
		if x, n := holdClean(t, d); n != 0 || !sameDisk(x, d) {
			t.Errorf("cleaned: %d %q", n, x)
		}
	}
}

func TestNamesHeldAreAscending(t *testing.T) {
	d := impl.Disk{}
	for _, s := range []string{"z", "a", "m/2", "m", "m-", "m/10", "0", "-", "_", "/"} {
		d, _ = impl.Keep(d, s, timed(1), len(s) > 1)
	}
	if names := holdHeld(t, d); !slices.Equal(names, []string{"-", "/", "0", "_", "a", "m", "m-", "m/10", "m/2", "z"}) {
		t.Errorf("held: %q", names)
	}
	d, _ = impl.RotBit(d, "m", 3)
	d, _ = impl.RotBit(d, "-", 3)
	if names := holdHeld(t, d); !slices.Equal(names, []string{"/", "0", "_", "a", "m-", "m/10", "m/2", "z"}) {
		t.Errorf("held, two of them rotten: %q", names)
	}
}

func TestKeepAtTheLimitOfNow(t *testing.T) {
	almost, full := manyFiles("m", 0, 59), manyFiles("m", 0, 60)
	for _, sure := range []bool{false, true} {
		for _, s := range []string{"a", "m029x", "z"} {
			x, code := holdKeep(t, diskOf(almost, nil), s, timed(1), sure)
			if code != impl.KeepGood || len(x.Now) != 60 {
				t.Errorf("%s is a 60th name: %d", s, code)
			}
			if x, code = holdKeep(t, diskOf(full, nil), s, timed(99), sure); code != impl.KeepFull || !sameDisk(x, diskOf(full, nil)) {
				t.Errorf("%s is a 61st name: %d", s, code)
			}
			// That it is in Sure makes no room in Now.
			d := diskOf(full, onDisk{s: bytesAt(1)})
			if x, code = holdKeep(t, d, s, timed(99), sure); code != impl.KeepFull || !sameDisk(x, d) {
				t.Errorf("%s is a 61st name, sure already: %d", s, code)
			}
		}
		for _, s := range []string{"m000", "m031", "m059"} {
			x, code := holdKeep(t, diskOf(full, nil), s, timed(99), sure)
			if code != impl.KeepGood || len(x.Now) != 60 {
				t.Errorf("%s is there: %d", s, code)
			}
			if x, code = holdKeep(t, diskOf(full, nil), s, timed(1), sure); code != impl.KeepOld || !sameList(x.Now, listOf(full)) {
				t.Errorf("%s is there, and later: %d", s, code)
			}
			rotten := manyFiles("m", 0, 60)
			rotten[s] = "rotten"
			if x, code = holdKeep(t, diskOf(rotten, rotten), s, timed(1), sure); code != impl.KeepGood || len(x.Now) != 60 {
				t.Errorf("%s is rotten, and gives way: %d", s, code)
			}
			is(t, "at the limit", x, s, timed(1))
		}
	}
}

func TestKeepAtTheLimitOfSure(t *testing.T) {
	almost, full := manyFiles("m", 0, 59), manyFiles("m", 0, 60)
	for _, x := range []struct {
		why  string
		now  onDisk
		sure onDisk
		time int
		code int
		full bool
	}{
		{"a new one is a 60th", nil, almost, 5, impl.KeepGood, false},
		{"a new one is a 61st", nil, full, 5, impl.KeepFull, true},
		{"a later one is a 60th", onDisk{"a": bytesAt(3)}, almost, 5, impl.KeepGood, false},
		{"a later one is a 61st", onDisk{"a": bytesAt(3)}, full, 5, impl.KeepFull, true},
		{"what stays is a 60th", onDisk{"a": bytesAt(9)}, almost, 5, impl.KeepOld, false},
		{"what stays is a 61st", onDisk{"a": bytesAt(9)}, full, 5, impl.KeepFull, true},
		{"the same one is a 60th", onDisk{"a": bytesAt(5)}, almost, 5, impl.KeepOld, false},
		{"the same one is a 61st", onDisk{"a": bytesAt(5)}, full, 5, impl.KeepFull, true},
		{"for a rotten one a 60th", onDisk{"a": "rotten"}, almost, 5, impl.KeepGood, false},
		{"for a rotten one a 61st", onDisk{"a": "rotten"}, full, 5, impl.KeepFull, true},
	} {
		d := diskOf(x.now, x.sure)
		got, code := holdKeep(t, d, "a", timed(x.time), true)
		if code != x.code || x.full && !sameDisk(got, d) || !x.full && len(got.Sure) != 60 {
			t.Errorf("%s: %d", x.why, code)
		}
		// Not for sure there is room.
		if got, code = holdKeep(t, d, "a", timed(x.time), false); code == impl.KeepFull || code == impl.KeepForm || !sameList(got.Sure, d.Sure) || len(got.Now) != 1 {
			t.Errorf("%s, not for sure: %d", x.why, code)
		}
	}
	for _, s := range []string{"m000", "m031", "m059"} {
		for _, now := range []onDisk{nil, {s: bytesAt(3)}, {s: bytesAt(99)}, {s: "rotten"}} {
			got, code := holdKeep(t, diskOf(now, full), s, timed(60), true)
			if code == impl.KeepFull || len(got.Sure) != 60 {
				t.Errorf("%s is sure, %q: %d", s, now, code)
			}
		}
	}
}

// Here a crash itself is refused by FallDisk, as too many would be left: what was kept for sure is still there.
func TestKeptForSureWhereACrashWouldLeaveTooMany(t *testing.T) {
	d := diskOf(manyFiles("a", 0, 59), manyFiles("b", 0, 59))
	for _, s := range []string{"a", "b", "c"} {
		x, code := holdKeep(t, d, s, timed(5), true)
		if code != impl.KeepGood || len(x.Now) != 60 || len(x.Sure) != 60 {
			t.Errorf("%s: %d", s, code)
		}
		for _, n := range []int{0, 1, 2, 59, 60, 61, 119, 200} {
			is(t, fmt.Sprint(n, " are kept"), impl.FallDisk(x, slices.Repeat([]bool{true}, n)), s, timed(5))
			is(t, fmt.Sprint("all but ", n, " are kept"), impl.FallDisk(x, append(make([]bool, n), slices.Repeat([]bool{true}, 200)...)), s, timed(5))
		}
	}
}

func TestDeadOnesAreFilesAsOthersAre(t *testing.T) {
	dead := deadFile(impl.Stamp{Time: 5})
	d, code := holdKeep(t, impl.Disk{}, "n", dead, true)
	is(t, "Dead", d, "n", dead)
	if code != impl.KeepGood || !slices.Equal(holdHeld(t, d), []string{"n"}) {
		t.Errorf("is kept: %d %q", code, d)
	}
	if x, n := holdClean(t, d); n != 0 || !sameDisk(x, d) {
		t.Errorf("is cleaned: %d", n)
	}
	is(t, "Dead, behind a crash", impl.FallDisk(d, nil), "n", dead)
	x, code := holdKeep(t, d, "n", timed(4), true)
	is(t, "an elder one does not bring it back", x, "n", dead)
	y, codeLater := holdKeep(t, d, "n", timed(6), true)
	is(t, "a later one does", y, "n", timed(6))
	if code != impl.KeepOld || codeLater != impl.KeepGood {
		t.Error(code, codeLater)
	}
	z, code := holdKeep(t, y, "n", dead, true)
	is(t, "an elder one that is Dead", z, "n", timed(6))
	w, codeLater := holdKeep(t, y, "n", deadFile(impl.Stamp{Time: 6, Seq: 1}), false)
	is(t, "a later one that is Dead", w, "n", deadFile(impl.Stamp{Time: 6, Seq: 1}))
	if code != impl.KeepOld || codeLater != impl.KeepGood {
		t.Error(code, codeLater)
	}
	r, _ := impl.RotBit(d, "n", 30)
	if looks := holdLook(t, r, "n"); looks != impl.LookBad || len(holdHeld(t, r)) != 0 {
		t.Error("Dead and rotten:", looks)
	}
}

func TestEachRightFileIsKept(t *testing.T) {
	for _, f := range rightFiles() {
		d, code := holdKeep(t, diskOf(onDisk{"a": bytesAt(1)}, nil), "n", f, true)
		if code != impl.KeepGood || string(d.Now[1].Bytes) != bytesRight(f) || len(d.Sure) != 1 || string(d.Sure[0].Bytes) != bytesRight(f) {
			t.Fatalf("%v: %d %q", f, code, d)
		}
		if holdLook(t, d, "n") != impl.LookGood {
			t.Fatalf("%v: is not there", f)
		}
	}
}

func TestWritesIntoWhatObjectsAnswer(t *testing.T) {
	f := file(impl.Stamp{Time: 5}, "data")
	d, _ := impl.Keep(impl.Disk{}, "n", f, true)
	want := diskOf(onDisk{"n": bytesRight(f)}, onDisk{"n": bytesRight(f)})
	fill(f.Data, '!')
	if !sameDisk(d, want) {
		t.Errorf("changes with the Data: %q", d)
	}
	got, _ := impl.Look(d, "n")
	fill(got.Data, '?')
	got.Data = append(got.Data, "more"...)
	if !sameDisk(d, want) {
		t.Errorf("changes with what Look answers: %q", d)
	}
	// The lists that are handed in share memory: what is answered shares none, be it kept, old, refused or cleaned.
	b := []byte(bytesAt(5))
	l := []impl.Named{{Name: "a", Bytes: b}, {Name: "b", Bytes: []byte("rotten")}, {Name: "c", Bytes: b}}
	one := impl.Disk{Now: l, Sure: l[:2]}
	kept := wholeDisk(one)
	for why, call := range map[string]func() impl.Disk{
		"good":           func() impl.Disk { x, _ := impl.Keep(one, "d", timed(1), false); return x },
		"good for sure":  func() impl.Disk { x, _ := impl.Keep(one, "a", timed(8), true); return x },
		"for rotten":     func() impl.Disk { x, _ := impl.Keep(one, "b", timed(1), true); return x },
		"old":            func() impl.Disk { x, _ := impl.Keep(one, "c", timed(5), false); return x },
		"old for sure":   func() impl.Disk { x, _ := impl.Keep(one, "c", timed(5), true); return x },
		"form":           func() impl.Disk { x, _ := impl.Keep(one, "D", timed(5), true); return x },
		"cleaned":        func() impl.Disk { x, _ := impl.Clean(one); return x },
		"nothing rotten": func() impl.Disk { x, _ := impl.Clean(impl.Disk{Now: l[:1], Sure: l[:1]}); return x },
		"not right":      func() impl.Disk { x, _ := impl.Clean(impl.Disk{Now: slices.Repeat(l, 2), Sure: l}); return x },
		"form, not right": func() impl.Disk {
			x, _ := impl.Keep(impl.Disk{Now: slices.Repeat(l, 2), Sure: l}, "a", timed(1), true)
			return x
		},
	} {
		ownMemory(t, why, call())
		if wholeDisk(one) != kept || string(b) != bytesAt(5) {
			t.Fatalf("%s: written into: %q", why, one)
		}
	}
	full := diskOf(manyFiles("m", 0, 60), manyFiles("n", 0, 60))
	was := wholeDisk(full)
	for _, s := range []string{"a", "m000"} {
		x, code := impl.Keep(full, s, timed(99), true)
		ownMemory(t, "full", x)
		if code != impl.KeepFull || wholeDisk(full) != was {
			t.Fatalf("full: %d, written into: %q", code, full)
		}
	}
}

// One disk goes on by mixed calls; it is held against the document at each step, and behind each crash what was made sure is asked for.
func TestObjectsGoOn(t *testing.T) {
	codes := map[int]int{}
	for seed := range uint32(60) {
		d, sureAt := impl.Disk{}, map[string]impl.Stamp{}
		mix := someBytes(5*120, seed+5000)
		for step := range 120 {
			kind, at, more, last := mix[5*step], mix[5*step+1], mix[5*step+2], mix[5*step+3]
			s := fmt.Sprintf("n%d", int(at)%(2+int(seed)*2))
			switch kind % 8 {
			case 0, 1, 2, 3:
				f := file(impl.Stamp{Time: int(more) % 50, Node: int(last) % 3}, string(mix[step:step+int(last)%40]))
				if last%7 == 0 {
					f = deadFile(f.Stamp)
				}
				x, code := holdKeep(t, d, s, f, kind%2 == 0)
				codes[code]++
				if kind%2 == 0 && code <= impl.KeepOld {
					// What gave way to an elder one was rotten, and counts no more.
					kept, _ := lookRight(x, s)
					sureAt[s] = kept.Stamp
				}
				d = x
			case 4:
				if x, ok := impl.RotBit(d, s, int(more)); ok {
					d = x
					delete(sureAt, s)
				}
			case 5:
				x, n := holdClean(t, d)
				codes[-n]++
				for name := range sureAt {
					if _, looks := lookRight(x, name); looks == impl.LookNone {
						delete(sureAt, name)
					}
				}
				d = x
			case 6, 7:
				var keep []bool
				for i := range int(more) % 80 {
					keep = append(keep, mix[i]%3 > 0)
				}
				x := impl.FallDisk(d, keep)
				for name, stamp := range sureAt {
					if f, looks := impl.Look(x, name); looks != impl.LookGood || stampOrder(f.Stamp, stamp) < 0 {
						t.Fatalf("%s was sure at %v, is %v %d behind %v", name, stamp, f, looks, keep)
					}
				}
				if kind%8 == 6 {
					d = x
				}
			}
			holdLook(t, d, s)
			holdHeld(t, d)
		}
	}
	if codes[impl.KeepGood] < 100 || codes[impl.KeepOld] < 100 || codes[-2] == 0 {
		t.Error("hardly any of one kind:", codes)
	}
}

func TestObjectsOnFullDisksGoOn(t *testing.T) {
	codes := map[int]int{}
	for seed := range uint32(8) {
		d := diskOf(manyFiles("m", 0, 58), manyFiles("m", 20+int(seed), 59))
		mix := someBytes(400, seed+333)
		for step := range 100 {
			s := fmt.Sprintf("m%03d", int(mix[4*step+1])%90)
			switch mix[4*step] % 6 {
			case 0, 1, 2, 3:
				x, code := holdKeep(t, d, s, timed(int(mix[4*step+2])%100), mix[4*step]%2 == 0)
				codes[code]++
				d = x
			case 4:
				d, _ = impl.RotBit(d, s, int(mix[4*step+3])%100)
			case 5:
				d, _ = holdClean(t, d)
			}
		}
	}
	if codes[impl.KeepFull] < 10 || codes[impl.KeepGood] < 10 || codes[impl.KeepOld] < 10 {
		t.Error("hardly any of one kind:", codes)
	}
}

package tests

import (
	"fmt"
	"math"
	"slices"
	"strings"
	"testing"

	"loop.example/g00241/impl"
)

// devRight is the document's own rule, written apart from the program's way.
func devRight(d impl.Dev) bool {
	return d.Id == min(max(d.Id, 0), 20) && d.Zone == min(max(d.Zone, 0), 20) && d.Weight == min(max(d.Weight, 1), 1000)
}

func devsRight(l []impl.Dev) bool {
	last := -1
	for _, d := range l {
		if !devRight(d) || d.Id <= last {
			return false
		}
		last = d.Id
	}
	return len(l) >= 1 && len(l) <= 12
}

func textOfDevs(l []impl.Dev) string {
	text := ""
	for i, d := range l {
		if i > 0 {
			text += " "
		}
		text += fmt.Sprintf("%d:%d:%d", d.Id, d.Zone, d.Weight)
	}
	return text
}

// devsFrom makes n devices, with Ids that rise by one from first on, in zones that do not.
func devsFrom(first, n int) []impl.Dev {
	l := []impl.Dev{}
	for i := range n {
		l = append(l, impl.Dev{Id: first + i, Zone: (7*i + 3) % 21, Weight: 1 + 83*i})
	}
	return l
}

// edgeDevs holds each edge of each number with each of the others.
func edgeDevs() []impl.Dev {
	var out []impl.Dev
	for _, id := range edgesOf(20) {
		for _, zone := range edgesOf(20) {
			for _, weight := range edgesOf(1000) {
				out = append(out, impl.Dev{Id: id, Zone: zone, Weight: weight})
			}
		}
	}
	return out
}

// mixedDevs makes a list that is the same in every run of a seed, now right and now not.
func mixedDevs(seed uint32) []impl.Dev {
	b := someBytes(40, seed)
	l := []impl.Dev{}
	id := -1 + int(b[0]%8)/7
	for i := range int(b[1] % 15) {
		id += 1 + int(b[2+i]%32)/31 - int(b[2+i]%64)/63*2
		l = append(l, impl.Dev{Id: id, Zone: int(b[17+i]) % 21, Weight: 1 + int(b[17+i])*int(b[2+i])%1000})
	}
	return l
}

func TestDevsByHowMany(t *testing.T) {
	for n, ok := range map[int]bool{0: false, 1: true, 2: true, 11: true, 12: true, 13: false, 14: false, 20: false, 21: false} {
		l := devsFrom(0, n)
		if impl.DevsOk(l) != ok || impl.DevsOk(l) != devsRight(l) {
			t.Errorf("%d devices: %v", n, impl.DevsOk(l))
		}
		if n > 0 && n < 13 && !impl.DevsOk(devsFrom(21-n, n)) {
			t.Errorf("%d devices up to the Id 20", n)
		}
	}
	if impl.DevsOk(nil) || impl.DevsOk(make([]impl.Dev, 300)) {
		t.Error("nil, or 300 zero ones, are right")
	}
}

func TestDevsByTheirNumbers(t *testing.T) {
	for _, d := range []impl.Dev{
		{Weight: 1}, {Id: 20, Weight: 1}, {Zone: 20, Weight: 1}, {Weight: 1000}, {Id: 20, Zone: 20, Weight: 1000}, {Id: 1, Zone: 2, Weight: 3},
	} {
		if !impl.DevsOk([]impl.Dev{d}) {
			t.Error("is right:", d)
		}
	}
	for _, d := range []impl.Dev{
		{}, {Id: 1, Zone: 2}, {Id: -1, Weight: 1}, {Zone: -1, Weight: 1}, {Weight: -1}, {Id: 21, Weight: 1}, {Zone: 21, Weight: 1}, {Weight: 1001},
		{Id: 20, Zone: 20, Weight: 1001}, {Id: 20, Zone: 21, Weight: 1000}, {Id: 21, Zone: 20, Weight: 1000},
	} {
		if impl.DevsOk([]impl.Dev{d}) {
			t.Error("is not right:", d)
		}
	}
	for _, d := range edgeDevs() {
		if impl.DevsOk([]impl.Dev{d}) != devRight(d) {
			t.Fatal(d, impl.DevsOk([]impl.Dev{d}))
		}
	}
}

// One that is not right makes all of them so, wherever it stands.
func TestDevsWithOneThatIsNotRight(t *testing.T) {
	for n := 1; n <= 12; n++ {
		for i := range n {
			for _, spoil := range []func(d *impl.Dev){
				func(d *impl.Dev) { d.Zone = -1 }, func(d *impl.Dev) { d.Zone = 21 }, func(d *impl.Dev) { d.Weight = 0 }, func(d *impl.Dev) { d.Weight = 1001 },
				func(d *impl.Dev) { d.Id = -1 }, func(d *impl.Dev) { d.Id = 21 },
			} {
				l := devsFrom(4, n)
				spoil(&l[i])
				if impl.DevsOk(l) || impl.DevsText(l) != "" {
					t.Errorf("%v: %v %q", l, impl.DevsOk(l), impl.DevsText(l))
				}
				if back, ok := impl.ParseDevs(textOfDevs(l)); ok || len(back) != 0 {
					t.Errorf("%q: %v %v", textOfDevs(l), back, ok)
				}
			}
		}
	}
}

func TestDevsByTheOrderOfIds(t *testing.T) {
	for _, x := range []struct {
		ids []int
		ok  bool
	}{
		{[]int{0, 1, 2}, true}, {[]int{0, 20}, true}, {[]int{3, 9, 10}, true}, {[]int{2, 10}, true}, {[]int{20}, true},
		{[]int{2, 1, 0}, false}, {[]int{1, 0}, false}, {[]int{0, 0}, false}, {[]int{5, 5}, false}, {[]int{20, 20}, false}, {[]int{10, 2}, false},
		{[]int{0, 1, 1}, false}, {[]int{0, 0, 1}, false}, {[]int{0, 2, 1}, false}, {[]int{1, 0, 2}, false}, {[]int{1, 2, 1}, false}, {[]int{0, 1, 2, 3, 3, 5}, false},
		{[]int{0, 1, 2, 3, 4, 5, 6, 7, 8, 9, 10, 10}, false}, {[]int{1, 2, 3, 4, 5, 6, 7, 8, 9, 10, 11, 0}, false},
	} {
		l := []impl.Dev{}
		for i, id := range x.ids {
			l = append(l, impl.Dev{Id: id, Zone: 20 - i, Weight: 1000 - i})
		}
		text := textOfDevs(l)
		if impl.DevsOk(l) != x.ok || (impl.DevsText(l) == text) != x.ok || !x.ok && impl.DevsText(l) != "" {
			t.Errorf("Ids %v: %v %q", x.ids, impl.DevsOk(l), impl.DevsText(l))
		}
		if back, ok := impl.ParseDevs(text); ok != x.ok || ok && !slices.Equal(back, l) || !ok && len(back) != 0 {
			t.Errorf("%q: %v %v", text, back, ok)
		}
	}
}

func TestDevAt(t *testing.T) {
	l := []impl.Dev{{Id: 0, Zone: 4, Weight: 7}, {Id: 3, Zone: 1, Weight: 2}, {Id: 20, Zone: 4, Weight: 1000}}
	for _, want := range l {
		if d, ok := impl.DevAt(l, want.Id); d != want || !ok {
			t.Errorf("at %d: %v %v", want.Id, d, ok)
		}
	}
	for _, id := range []int{-1, 1, 2, 4, 7, 19, 21, math.MinInt, math.MaxInt, 1 << 32, 1<<32 + 3} {
		if d, ok := impl.DevAt(l, id); d != (impl.Dev{}) || ok {
			t.Errorf("at %d: %v %v", id, d, ok)
		}
	}
	for _, none := range [][]impl.Dev{nil, {}, l[:0]} {
		for _, id := range []int{0, 3, -1} {
			if d, ok := impl.DevAt(none, id); d != (impl.Dev{}) || ok {
				t.Errorf("of none, at %d: %v %v", id, d, ok)
			}
		}
	}
	if d, ok := impl.DevAt(l[:2], 20); d != (impl.Dev{}) || ok {
		t.Error("behind the length:", d, ok)
	}
}

// The words ask for no list that is right: what has the Id is told, the first of several.
func TestDevAtOfDevsThatAreNotRight(t *testing.T) {
	l := []impl.Dev{{Id: 9, Zone: -7}, {Id: 2, Zone: 1, Weight: 1}, {Id: 2, Zone: 5, Weight: 5}, {Id: -1, Weight: -3}, {Id: 9, Weight: 1}, {Id: math.MaxInt, Zone: 21, Weight: 1001}}
	for id, want := range map[int]impl.Dev{9: l[0], 2: l[1], -1: l[3], math.MaxInt: l[5]} {
		if d, ok := impl.DevAt(l, id); d != want || !ok {
			t.Errorf("at %d: %v %v", id, d, ok)
		}
	}
	if d, ok := impl.DevAt(l, 0); d != (impl.Dev{}) || ok {
		t.Error("none of 0:", d, ok)
	}
	if d, ok := impl.DevAt(make([]impl.Dev, 13), 0); d != (impl.Dev{}) || !ok {
		t.Error("13 of 0:", d, ok)
	}
	if d, ok := impl.DevAt(devsFrom(0, 300), 299); d.Id != 299 || !ok {
		t.Error("the last of 300:", d, ok)
	}
}

func TestZonesOf(t *testing.T) {
	for _, x := range []struct{ zones, want []int }{
		{nil, nil}, {[]int{}, nil}, {[]int{5}, []int{5}}, {[]int{0}, []int{0}}, {[]int{4, 4, 4, 4}, []int{4}}, {[]int{0, 0}, []int{0}}, {[]int{0, 1, 2}, []int{0, 1, 2}},
		{[]int{2, 1, 0}, []int{0, 1, 2}}, {[]int{3, 0, 3, 20, 0, 3}, []int{0, 3, 20}}, {[]int{10, 9, 2, 1, 20, 11}, []int{1, 2, 9, 10, 11, 20}},
		{[]int{20, 19, 18, 17, 16, 15, 14, 13, 12, 11, 10, 9}, []int{9, 10, 11, 12, 13, 14, 15, 16, 17, 18, 19, 20}},
		// Devices that are not right have zones, too.
		{[]int{-1, 21, -1, 0}, []int{-1, 0, 21}}, {[]int{math.MaxInt, math.MinInt, 7, math.MaxInt}, []int{math.MinInt, 7, math.MaxInt}}, {make([]int, 300), []int{0}},
	} {
		rising, falling := []impl.Dev{}, []impl.Dev{}
		for i, zone := range x.zones {
			rising = append(rising, impl.Dev{Id: i, Zone: zone, Weight: 1})
			falling = append(falling, impl.Dev{Id: -i / 2, Zone: zone, Weight: -i})
		}
		// Many times, as the order of a map is another one each time.
		for range 20 {
			if z := impl.ZonesOf(rising); !slices.Equal(z, x.want) {
				t.Fatalf("of zones %v: %v", x.zones, z)
			}
			if z := impl.ZonesOf(falling); !slices.Equal(z, x.want) {
				t.Fatalf("of zones %v, not right: %v", x.zones, z)
			}
		}
	}
	if z := impl.ZonesOf(devsFrom(0, 12)[:2]); !slices.Equal(z, []int{3, 10}) {
		t.Error("behind the length:", z)
	}
}

func TestDevsComeBack(t *testing.T) {
	for text, l := range map[string][]impl.Dev{
		"0:0:1": {{Weight: 1}}, "20:20:1000": {{Id: 20, Zone: 20, Weight: 1000}}, "1:3:10 2:0:1 7:3:5": {{Id: 1, Zone: 3, Weight: 10}, {Id: 2, Weight: 1}, {Id: 7, Zone: 3, Weight: 5}},
		"0:20:1000 20:0:1": {{Zone: 20, Weight: 1000}, {Id: 20, Weight: 1}}, "9:10:100 10:1:999": {{Id: 9, Zone: 10, Weight: 100}, {Id: 10, Zone: 1, Weight: 999}},
	} {
		if told := impl.DevsText(l); told != text {
			t.Errorf("text of %v: %q", l, told)
		}
		if back, ok := impl.ParseDevs(text); !slices.Equal(back, l) || !ok {
			t.Errorf("devices of %q: %v %v", text, back, ok)
		}
	}
	for n := range 22 {
		for first := range 21 {
			comeBack(t, devsFrom(first, n))
		}
	}
	for _, d := range edgeDevs() {
		comeBack(t, []impl.Dev{d})
	}
	right := 0
	for seed := range uint32(3000) {
		l := mixedDevs(seed)
		comeBack(t, l)
		if devsRight(l) {
			right++
		}
	}
	if right < 500 || right > 2500 {
		t.Error("the mixed ones are nearly all alike:", right)
	}
}

func comeBack(t *testing.T, l []impl.Dev) {
	t.Helper()
	right, text := devsRight(l), textOfDevs(l)
	told := impl.DevsText(l)
	if impl.DevsOk(l) != right || right && told != text || !right && told != "" {
		t.Fatalf("%v: %v %q", l, impl.DevsOk(l), told)
	}
	back, ok := impl.ParseDevs(text)
	if ok != right || right && !slices.Equal(back, l) || !right && len(back) != 0 {
		t.Fatalf("%q: %v %v", text, back, ok)
	}
}

func TestTextsThatAreNoDevs(t *testing.T) {
	for _, s := range []string{
		"", " ", "  ", ":", "::", ":::", "1", "1:0", "1:0:1:", ":1:0:1", "1:0:1:1", "1::1", ":0:1", "1:0:", "1:::1", "::1", "1::", "1 0 1", "1:0 1", "1 0:1",
		"01:0:1", "1:00:1", "1:0:01", "00:0:1", "0:00:1", "0:0:00", "0:0:0", "1:0:0", "1:0:001", "1:01:1", "1:0:010", "001:0:1",
		"+1:0:1", "-1:0:1", "1:+0:1", "1:-0:1", "1:-1:1", "1:0:+1", "1:0:-1", "-0:0:1",
		" 1:0:1", "1:0:1 ", "1:0:1  2:0:1", "1:0:1   2:0:1", "  1:0:1", "1:0:1  ", " 1:0:1 2:0:1", "1:0:1 2:0:1 ", "1 :0:1", "1: 0:1", "1:0: 1", "1:0 :1",
		"1:0:1\t2:0:1", "1:0:1\n2:0:1", "1:0:1\n", "1:0:1\r\n", "\t1:0:1", "1:0:1\x00", "\x001:0:1", "1:0:1,2:0:1", "1:0:1;2:0:1", "1:0:12:0:1", "1:0:1\u00a02:0:1",
		"1.0.1", "1,0,1", "1;0;1", "1/0/1", "1-0-1", "a:b:c", "1:0:x", "x:0:1", "1:x:1", "0x1:0:1", "1:0:1e2", "1:0:1_0", "1:0:1.0", "1:0:/", "1:0:;", "\xff:0:1", "1:0:\xff", "\xef\xbc\x91:0:1", "1:0:\xd9\xa1",
		"21:0:1", "0:21:1", "0:0:1001", "100:0:1", "0:100:1", "0:0:10000", "0:0:1000000", "2:0:1 1:0:1", "1:0:1 1:0:1", "1:0:1 1:1:2", "10:0:1 2:0:1", "0:0:1 1:0:1 2:0:0", "0:0:1 1:0:1 2:0", "0:0:1 1:0:1 x",
		"9223372036854775807:0:1", "9223372036854775808:0:1", "18446744073709551617:0:1", "1:18446744073709551616:1", "1:0:18446744073709551617", "4294967297:0:1", "1:4294967296:1", "1:0:4294967297", "1:0:257:", "257:0:1", "1:256:1",
		"1:0:340282366920938463463374607431768211457", strings.Repeat("9", 3000) + ":0:1", "1:" + strings.Repeat("9", 3000) + ":1", "1:0:" + strings.Repeat("9", 3000), "1:0:1" + strings.Repeat("0", 3000),
		strings.Repeat("0", 3000) + ":0:1", strings.Repeat(" ", 3000), strings.Repeat(":", 3000), strings.Repeat("1:0:1 ", 3000), strings.Repeat("1:", 3000),
		textOfDevs(devsFrom(0, 13)), textOfDevs(devsFrom(0, 21)), textOfDevs(devsFrom(0, 12)) + " ", " " + textOfDevs(devsFrom(0, 12)),
	} {
		if l, ok := impl.ParseDevs(s); ok || len(l) != 0 {
			t.Errorf("%.60q: %v %v", s, l, ok)
		}
	}
}

// Devices have one text alone: whatever is read is what would be told, whatever byte is changed, set between or left out.
func TestDevsHaveOneText(t *testing.T) {
	read := 0
	for _, text := range []string{"0:0:1", "1:3:10 2:0:1 7:3:5", "20:20:1000", "9:10:100 10:0:999", textOfDevs(devsFrom(0, 12))} {
		for i := range len(text) {
			for c := range 256 {
				one := string([]byte{byte(c)})
				for _, s := range []string{text[:i] + one + text[i+1:], text[:i] + one + text[i:], text[:i] + text[i+1:], text + one} {
					l, ok := impl.ParseDevs(s)
					if ok && (!devsRight(l) || textOfDevs(l) != s || impl.DevsText(l) != s) || !ok && len(l) != 0 {
						t.Fatalf("%q: %v %v", s, l, ok)
					}
					if ok {
						read++
					}
				}
			}
		}
	}
	if read < 1000 {
		t.Error("hardly any is read:", read)
	}
}

func TestDevsAreLeftAlone(t *testing.T) {
	room := []impl.Dev{{Id: 1, Zone: 9, Weight: 1}, {Id: 2, Zone: 3, Weight: 2}, {Id: 3, Zone: 9, Weight: 3}, {Id: 4, Zone: 1, Weight: 4}, {Id: 0}}
	kept := slices.Clone(room)
	l := room[:3]
	if !impl.DevsOk(l) || impl.DevsText(l) != "1:9:1 2:3:2 3:9:3" || !slices.Equal(impl.ZonesOf(l), []int{3, 9}) {
		t.Error(impl.DevsText(l), impl.ZonesOf(l))
	}
	if d, ok := impl.DevAt(l, 4); ok {
		t.Error("behind the length:", d)
	}
	if !slices.Equal(room, kept) {
		t.Error("written into:", room)
	}
}

func TestDevsShareNoMemory(t *testing.T) {
	const text = "1:9:1 2:3:2 3:9:3"
	a, _ := impl.ParseDevs(text)
	b, _ := impl.ParseDevs(text)
	if len(a) != 3 || len(b) != 3 {
		t.Fatal(a, b)
	}
	first, second := impl.ZonesOf(a), impl.ZonesOf(a)
	for i := range a[:cap(a)] {
		a[:cap(a)][i] = impl.Dev{Id: 20, Zone: 20, Weight: 20}
	}
	for i := range first[:cap(first)] {
		first[:cap(first)][i] = -5
	}
	if impl.DevsText(b) != text || !slices.Equal(second, []int{3, 9}) {
		t.Error("shared:", b, second)
	}
	if c, ok := impl.ParseDevs(text); !ok || !slices.Equal(c, b) {
		t.Error("kept from an earlier call:", c)
	}
	d, _ := impl.DevAt(b, 2)
	d.Zone = 17
	if impl.DevsText(b) != text {
		t.Error("shared with the one told:", b)
	}
}

package tests

import (
	"bytes"
	"hash/crc32"
	"hash/fnv"
	"math"
	"strings"
	"testing"

	"loop.example/g00241/impl"
)

// someBytes makes bytes that look mixed and are the same in every run.
func someBytes(n int, seed uint32) []byte {
	out := make([]byte, n)
	for i := range out {
		seed = seed*1664525 + 1013904223
		out[i] = byte(seed >> 24)
	}
	return out
}

// numsToTry holds each number beside which a group more begins, the limits, and some between.
func numsToTry() []int {
	out := []int{0, 1, 2, 300, 99999, 123456789, impl.MaxNum - 1, impl.MaxNum}
	for edge := 128; edge < impl.MaxNum; edge *= 128 {
		out = append(out, edge-1, edge, edge+1)
	}
	for n := 3; n < impl.MaxNum; n = n*3 + 1 {
		out = append(out, n)
	}
	return out
}

// groupsOf is the document's own rule, written apart from the program's way.
func groupsOf(n int) string {
	if n < 128 {
		return string([]byte{byte(n)})
	}
	return string([]byte{byte(n&127 | 128)}) + groupsOf(n>>7)
}

func TestNumbersComeBack(t *testing.T) {
	for _, ahead := range []string{"", "x", "\x80\x80", strings.Repeat("\xff", 300)} {
		for _, n := range numsToTry() {
			b := impl.PutNum([]byte(ahead), n)
			if string(b) != ahead+groupsOf(n) {
				t.Fatalf("PutNum %d behind %d bytes: %x", n, len(ahead), b)
			}
			for _, behind := range []string{"", "\x00", "\xff\xff"} {
				got, next, ok := impl.GetNum(append(b[:len(b):len(b)], behind...), len(ahead))
				if got != n || next != len(b) || !ok {
					t.Fatalf("GetNum of %x: %d %d %v", b, got, next, ok)
				}
			}
		}
	}
}

func TestNumbersAreWrittenAsTold(t *testing.T) {
	for _, x := range []struct {
		n    int
		want string
	}{
		{0, "\x00"}, {1, "\x01"}, {127, "\x7f"}, {128, "\x80\x01"}, {129, "\x81\x01"}, {255, "\xff\x01"},
		{256, "\x80\x02"}, {16383, "\xff\x7f"}, {16384, "\x80\x80\x01"},
		{impl.MaxNum - 1, "\xff\x93\xeb\xdc\x03"}, {impl.MaxNum, "\x80\x94\xeb\xdc\x03"},
		{impl.MaxNum + 1, "\x80\x94\xeb\xdc\x03"}, {math.MaxInt, "\x80\x94\xeb\xdc\x03"},
		{1 << 32, "\x80\x94\xeb\xdc\x03"}, {-1, "\x00"}, {-128, "\x00"}, {math.MinInt, "\x00"},
	} {
		if b := impl.PutNum(nil, x.n); string(b) != x.want {
			t.Errorf("PutNum %d: %x, not %x", x.n, b, x.want)
		}
	}
}

func TestManyNumbersOneBehindTheOther(t *testing.T) {
	var b []byte
	for _, n := range numsToTry() {
		b = impl.PutText(impl.PutNum(b, n), groupsOf(n))
	}
	at := 0
	for _, n := range numsToTry() {
		got, next, ok := impl.GetNum(b, at)
		if got != n || !ok {
			t.Fatalf("number at %d: %d, not %d", at, got, n)
		}
		s, behind, ok := impl.GetText(b, next)
		if s != groupsOf(n) || !ok {
			t.Fatalf("text at %d: %q", next, s)
		}
		at = behind
	}
	if at != len(b) {
		t.Errorf("%d of %d bytes read", at, len(b))
	}
}

func TestNumbersThatAreNone(t *testing.T) {
	for _, x := range []struct {
		b  string
		at int
	}{
		{"", 0}, {"", 1}, {"", -1}, {"\x05", -1}, {"\x05", 1}, {"\x05", 2}, {"\x05", math.MinInt}, {"\x05", math.MaxInt},
		{"\x80", 0}, {"\xff\xff", 0}, {"\xff\xff", 1}, {"\x01\x80", 1}, {"\xff\xff\xff\xff", 0},
		{"\x80\x00", 0}, {"\xff\x00", 0}, {"\x81\x80\x00", 0}, {"\x80\x80\x80\x80\x00", 0}, {"\x80\x80\x80\x80\x80\x00", 0},
		{"\x81\x94\xeb\xdc\x03", 0}, {"\x80\x94\xeb\xdc\x04", 0}, {"\xff\xff\xff\xff\x0f", 0}, {"\xff\xff\xff\xff\x7f", 0},
		{"\x80\x80\x80\x80\x80\x01", 0}, {"\x81\x80\x80\x80\x80\x80\x80\x80\x80\x01", 0},
		{"\x81\x80\x80\x80\x80\x80\x80\x80\x80\x80\x01", 0}, {strings.Repeat("\x80", 400) + "\x01", 0},
		{strings.Repeat("\xff", 400), 0},
	} {
		if n, next, ok := impl.GetNum([]byte(x.b), x.at); n != 0 || next != 0 || ok {
			t.Errorf("GetNum of %x at %d: %d %d %v", x.b, x.at, n, next, ok)
		}
	}
}

// A number has one form of bytes alone: whatever is read is what would be put.
func TestNumbersHaveOneForm(t *testing.T) {
	try := func(b []byte) {
		n, next, ok := impl.GetNum(b, 0)
		if !ok {
			if n != 0 || next != 0 {
				t.Fatalf("%x: false beside %d %d", b, n, next)
			}
			return
		}
		if n < 0 || n > impl.MaxNum || next < 1 || next > len(b) || groupsOf(n) != string(b[:next]) {
			t.Fatalf("%x: %d %d", b, n, next)
		}
	}
	for x := range 1 << 16 {
		try([]byte{byte(x)})
		try([]byte{byte(x), byte(x >> 8)})
		for _, c := range []byte{0, 1, 127, 128, 255} {
			try([]byte{byte(x), byte(x >> 8), c})
			try([]byte{byte(x) | 128, byte(x>>8) | 128, 0xeb, 0xdc, c})
		}
	}
}

func TestNumbersAreReadWhereverTheyAreWhole(t *testing.T) {
	whole := impl.PutNum(nil, impl.MaxNum)
	for cut := range len(whole) {
		if _, _, ok := impl.GetNum(whole[:cut], 0); ok {
			t.Errorf("the first %d bytes, the others behind its length", cut)
		}
	}
}

func TestTextsComeBack(t *testing.T) {
	for _, ahead := range []string{"", "\x03", "\x80\xff"} {
		for _, s := range []string{
			"", "a", "\x00", "xyz", "\xff\xfe", "\u00e9\u4e16", strings.Repeat("a", 127), strings.Repeat("b", 128),
			strings.Repeat("c", 129), string(someBytes(20000, 7)),
		} {
			b := impl.PutText([]byte(ahead), s)
			if string(b) != ahead+groupsOf(len(s))+s {
				t.Fatalf("PutText of %d bytes behind %d: %d bytes", len(s), len(ahead), len(b))
			}
			got, next, ok := impl.GetText(append(b[:len(b):len(b)], 9, 9), len(ahead))
			if got != s || next != len(b) || !ok {
				t.Fatalf("GetText of %d bytes: %d %d %v", len(s), len(got), next, ok)
			}
		}
	}
}

func TestTextsThatAreNone(t *testing.T) {
	for _, x := range []struct {
		b  string
		at int
	}{
		{"", 0}, {"", -1}, {"\x00", -1}, {"\x00", 1}, {"\x00", math.MaxInt}, {"\x00", math.MinInt}, {"\x01a", 2}, {"\x01a", 3},
		{"\x01", 0}, {"\x02a", 0}, {"\x80", 0}, {"\x80\x00", 0}, {"\x81\x00a", 0}, {"\x80\x01" + strings.Repeat("a", 127), 0},
		{"\x80\x94\xeb\xdc\x03abc", 0}, {"\x81\x94\xeb\xdc\x03abc", 0}, {"\xff\xff\xff\xff\xff\xff\xff\xff\x7fabc", 0},
	} {
		if s, next, ok := impl.GetText([]byte(x.b), x.at); s != "" || next != 0 || ok {
			t.Errorf("GetText of %x at %d: %q %d %v", x.b, x.at, s, next, ok)
		}
	}
	whole := impl.PutText(nil, "some words")
	for cut := range len(whole) {
		if s, next, ok := impl.GetText(whole[:cut], 0); s != "" || next != 0 || ok {
			t.Errorf("the first %d bytes, the others behind its length: %q", cut, s)
		}
	}
}

func TestCrc(t *testing.T) {
	for s, want := range map[string]int{
		"": 0, "a": 0xc1d04330, "123456789": 0xe3069283, strings.Repeat("\x00", 32): 0x8a9136aa, strings.Repeat("\xff", 32): 0x62a8ab43,
	} {
		if x := impl.Crc([]byte(s)); x != want {
			t.Errorf("Crc of %q: %x", s, x)
		}
	}
	if impl.Crc(nil) != 0 {
		t.Error("Crc of nil")
	}
	table := crc32.MakeTable(crc32.Castagnoli)
	for _, n := range []int{1, 2, 3, 4, 7, 8, 9, 63, 64, 65, 255, 1000, 100000} {
		b := someBytes(n, uint32(n))
		if x := impl.Crc(b); x != int(crc32.Checksum(b, table)) || x < 0 || x > math.MaxUint32 {
			t.Errorf("Crc of %d bytes: %x", n, x)
		}
		if x := impl.Crc(b[:n-1]); x != int(crc32.Checksum(b[:n-1], table)) {
			t.Errorf("Crc of %d bytes, one behind its length: %x", n-1, x)
		}
	}
}

func TestHash(t *testing.T) {
	for s, want := range map[string]int{
		"": 0x811c9dc5, "a": 0xe40c292c, "foobar": 0xbf9cf968, "\x00": 0x050c5d1f, "\xff": 0x7a0b824e,
	} {
		own := fnv.New32a()
		own.Write([]byte(s))
		if x := impl.Hash(s); x != want || x != int(own.Sum32()) {
			t.Errorf("Hash of %q: %x, not %x", s, x, own.Sum32())
		}
	}
	for _, n := range []int{1, 2, 5, 100, 1000, 100000} {
		b := someBytes(n, uint32(n)+1)
		own := fnv.New32a()
		own.Write(b)
		if x := impl.Hash(string(b)); x != int(own.Sum32()) || x < 0 || x > math.MaxUint32 {
			t.Errorf("Hash of %d bytes: %x, not %x", n, x, own.Sum32())
		}
	}
}

// Each function is handed the first few of many bytes: neither these nor those behind are written into, and no answer shares them.
func TestBytesLeaveTheirArgumentsAlone(t *testing.T) {
	for size := range 8 {
		room := []byte("\x03abcdefghijklmnopqrstuvwxyz")
		kept := bytes.Clone(room)
		b := room[:size]
		answers := [][]byte{impl.PutNum(b, 0), impl.PutNum(b, -1), impl.PutNum(b, impl.MaxNum), impl.PutText(b, ""), impl.PutText(b, "words")}
		text, _, _ := impl.GetText(b, 0)
		impl.GetNum(b, 0)
		impl.Crc(b)
		if !bytes.Equal(room, kept) {
			t.Fatalf("%d bytes handed in: %q", size, room)
		}
		told := make([]string, len(answers))
		for i, a := range answers {
			told[i] = string(a)
		}
		clear(room)
		for i, a := range answers {
			if string(a) != told[i] {
				t.Errorf("%d bytes handed in: answer %d shares them", size, i)
			}
		}
		if text != "" && text != "abc" {
			t.Errorf("%d bytes handed in: the text shares them: %q", size, text)
		}
		for i, a := range answers {
			for j := range a[:cap(a)] {
				a[:cap(a)][j] = 255
			}
			for j, other := range answers[i+1:] {
				if string(other) != told[i+1+j] {
					t.Errorf("%d bytes handed in: answers %d and %d share memory", size, i, i+1+j)
				}
			}
		}
		if !bytes.Equal(room, make([]byte, len(room))) {
			t.Errorf("%d bytes handed in: writing into an answer reached them", size)
		}
	}
}

package tests

import (
	"fmt"
	"hash/fnv"
	"math"
	"strings"
	"testing"

	"loop.example/g00241/impl"
)

const allowedSigns = "abcdefghijklmnopqrstuvwxyz0123456789-_/"

// nameRight is the document's own rule, told of bytes, apart from the program's way.
func nameRight(s string) bool {
	if len(s) < 1 || len(s) > 20 {
		return false
	}
	for i := range len(s) {
		if strings.IndexByte(allowedSigns, s[i]) < 0 {
			return false
		}
	}
	return true
}

// texts holds names, what is nearly one, and what is none.
func texts() []string {
	return []string{
		"", "a", "z", "0", "9", "-", "_", "/", "a/b", "cat/1_x-2", "//", "list", "a.b", "A", "a b", "a\n", "\x00", "\xff", "é", "aé", "a\xc3", "\ufffd", "日本",
		strings.Repeat("a", 20), strings.Repeat("a", 21), strings.Repeat("\xff", 300), strings.Repeat("-_/", 1000),
	}
}

func TestNamesByTheirLength(t *testing.T) {
	for _, sign := range strings.Split(allowedSigns, "") {
		for n := range 300 {
			if s := strings.Repeat(sign, n); impl.NameOk(s) != (1 <= n && n <= 20) {
				t.Errorf("%d times %q: %v", n, sign, impl.NameOk(s))
			}
		}
	}
	for n, ok := range map[int]bool{0: false, 1: true, 2: true, 19: true, 20: true, 21: false, 22: false, 40: false, 256: false, 257: false, 276: false, 1 << 16: false, 1<<16 + 1: false} {
		s := strings.Repeat(allowedSigns, n/len(allowedSigns)+1)[:n]
		if impl.NameOk(s) != ok {
			t.Errorf("a text of %d signs: %v", n, impl.NameOk(s))
		}
	}
}

func TestEachByteInAName(t *testing.T) {
	for c := range 256 {
		one := string([]byte{byte(c)})
		for _, s := range []string{
			one, one + "a", "a" + one, "a" + one + "z", one + one, "0/" + one + "-_", one + strings.Repeat("a", 19), strings.Repeat("a", 19) + one,
			strings.Repeat("a", 10) + one + strings.Repeat("9", 9),
		} {
			if impl.NameOk(s) != nameRight(s) {
				t.Errorf("%q: %v", s, impl.NameOk(s))
			}
		}
	}
}

func TestSignsBesideThoseAllowed(t *testing.T) {
	for _, sign := range []string{
		"`", "{", "@", "[", "A", "Z", "M", "/:", ":", ".", ",", "^", " ", "\t", "\n", "\r", "\x00", "\x7f", "\\", "|", "~", "+", "*", "%", "=", "'", "\"",
	} {
		for _, s := range []string{sign, "a" + sign, sign + "a", "a" + sign + "a", "-" + sign + "/", strings.Repeat("a", 10) + sign} {
			if impl.NameOk(s) {
				t.Errorf("is no name: %q", s)
			}
		}
	}
	for _, s := range []string{"a", "z", "0", "9", "-", "_", "/", "-/", "_-", "/_", "/0", "az09-_/", "a-z", "0-9", "--------------------", "////////////////////"} {
		if !impl.NameOk(s) {
			t.Errorf("is a name: %q", s)
		}
	}
}

func TestBytesAbove127InAName(t *testing.T) {
	for _, sign := range []string{
		// Whole signs, some of which are letters or digits elsewhere, and some whose lowest bits are those of a sign that is allowed.
		"é", "ß", "ª", "ſ", "а", "١", "ａ", "－", "／", "＿", "‐", "日", "😀", "\u0080", "\u0161", "\u012d", "\U00010061", "\U0010ffff", "\u00a0", "\ufeff", "\ufffd", "a\u0301",
		// Bytes that make none: cut off, out of place, too long for what they tell, half of a pair, past the end.
		"\x80", "\xbf", "\xc3", "\xc3a", "\xe2\x82", "\xf0\x9f\x98", "\xff", "\xfe", "\xc0\xaf", "\xc1\xa1", "\xe0\x81\xa1", "\xed\xa0\x80", "\xf4\x90\x80\x80", "\xe1",
	} {
		for _, s := range []string{sign, "a" + sign, sign + "a", "a/" + sign + "/z", strings.Repeat(sign, 5), strings.Repeat(sign, 20), strings.Repeat("a", 19) + sign, strings.Repeat("a", 20) + sign} {
			if impl.NameOk(s) {
				t.Errorf("is no name: %q", s)
			}
		}
	}
}

func TestNamesOfMixedBytes(t *testing.T) {
	for seed := range uint32(3000) {
		b := someBytes(int(seed%25), seed)
		if impl.NameOk(string(b)) != nameRight(string(b)) {
			t.Fatalf("%q: %v", b, impl.NameOk(string(b)))
		}
		for i := range b {
			b[i] = allowedSigns[int(b[i])%len(allowedSigns)]
		}
		if impl.NameOk(string(b)) != nameRight(string(b)) {
			t.Fatalf("%q: %v", b, impl.NameOk(string(b)))
		}
	}
}

func TestANameFallsIntoOneOfTheParts(t *testing.T) {
	for _, s := range texts() {
		h := fnv.New32a()
		h.Write([]byte(s))
		sum := int(h.Sum32())
		for _, parts := range []int{1, 2, 3, 7, 8, 64, 255, 256, 1000, 65536, 1<<31 - 1, 1 << 31, 1<<32 - 1, 1 << 32, 1<<32 + 1, 1 << 40, sum, sum + 1, math.MaxInt - 1, math.MaxInt} {
			part := impl.PartOf(s, parts)
			if parts > 0 && (part < 0 || part >= parts || part != sum%parts) {
				t.Errorf("%q of %d parts: %d, asked is %d", s, parts, part, sum%parts)
			}
			if again := impl.PartOf(s, parts); again != part {
				t.Errorf("%q of %d parts: %d, and again %d", s, parts, part, again)
			}
		}
	}
}

func TestPartsAsTold(t *testing.T) {
	for _, x := range []struct {
		s           string
		parts, part int
	}{
		{"", 10, 1}, {"", 1 << 32, 2166136261}, {"a", 1 << 32, 0xe40c292c}, {"a", 1, 0}, {"a", 16, 12}, {"foobar", 8, 0}, {"foobar", 1 << 32, 0xbf9cf968},
		{"foobar", 0xbf9cf968, 0}, {"foobar", 0xbf9cf969, 0xbf9cf968}, {"foobar", math.MaxInt, 0xbf9cf968}, {"\xff", 2, 0},
	} {
		if got := impl.PartOf(x.s, x.parts); got != x.part {
			t.Errorf("%q of %d parts: %d, asked is %d", x.s, x.parts, got, x.part)
		}
	}
}

func TestNoParts(t *testing.T) {
	for _, s := range texts() {
		for _, parts := range []int{0, -1, -2, -8, -64, -1 << 31, -1 << 32, math.MinInt + 1, math.MinInt} {
			if got := impl.PartOf(s, parts); got != 0 {
				t.Errorf("%q of %d parts: %d", s, parts, got)
			}
		}
	}
}

func TestNamesFallIntoAllParts(t *testing.T) {
	for _, parts := range []int{1, 2, 8, 64} {
		seen := make([]int, parts)
		for i := range 64 * parts {
			seen[impl.PartOf(fmt.Sprintf("cat/%d", i), parts)]++
		}
		for part, n := range seen {
			if n == 0 {
				t.Errorf("nothing falls into %d of %d", part, parts)
			}
		}
	}
}

func TestUnder(t *testing.T) {
	for _, x := range []struct {
		s, prefix string
		under     bool
	}{
		{"cat/1", "", true}, {"", "", true}, {"cat/1", "c", true}, {"cat/1", "cat/", true}, {"cat/1", "cat/1", true}, {"cat/1", "cat/12", false},
		{"cat/1", "cat/2", false}, {"cat/1", "dat/1", false}, {"cat/1", "at/1", false}, {"cat/1", "cbt", false}, {"cat", "cat/", false}, {"", "c", false}, {"", "\x00", false},
		{"a", "b", false}, {"b", "a", false}, {"aa", "ba", false}, {"aaa", "aab", false}, {"aab", "aaa", false},
		// No names, and yet texts: byte by byte, and a capital is another sign.
		{"Cat", "C", true}, {"Cat", "c", false}, {"a b", "a ", true}, {"a.b", "a.", true}, {"\xff\xfe", "\xff", true}, {"\xff", "\xfe", false}, {"é", "\xc3", true},
		{"é", "è", false}, {"\xff", "\ufffd", false}, {"\ufffd", "\xff", false}, {"a\x00b", "a\x00", true}, {"a\x00", "a\x00\x00", false},
		{strings.Repeat("a", 300), strings.Repeat("a", 299), true}, {strings.Repeat("a", 300), strings.Repeat("a", 301), false}, {strings.Repeat("a", 21) + "b", strings.Repeat("a", 22), false},
	} {
		if got := impl.Under(x.s, x.prefix); got != x.under {
			t.Errorf("%q under %q: %v", x.s, x.prefix, got)
		}
	}
}

func TestUnderEachBeginning(t *testing.T) {
	for _, s := range texts() {
		for n := range len(s) + 1 {
			if !impl.Under(s, s[:n]) {
				t.Errorf("%q begins with %q", s, s[:n])
			}
			if n == 0 {
				continue
			}
			other := s[:n-1] + string([]byte{s[n-1] ^ 1})
			if impl.Under(s, other) {
				t.Errorf("%q does not begin with %q", s, other)
			}
		}
		for _, more := range []string{"a", "/", "\x00", "\xff"} {
			if impl.Under(s, s+more) {
				t.Errorf("%q does not begin with what is longer, %q", s, s+more)
			}
		}
	}
}

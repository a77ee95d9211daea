package fnv

import (
	stdfnv "hash/fnv"
	"math"
	"strings"
	"testing"

	"honeycomb/api"
)

// P101, Sum: hashes that are published for FNV-1a, and its offset for no bytes.
func TestSumKnown(t *testing.T) {
	for _, c := range []struct {
		s    string
		want uint32
	}{
		{"", 2166136261},
		{"\x00", 0x050c5d1f},
		{"a", 0xe40c292c},
		{"b", 0xe70c2de5},
		{"foo", 0xa9f37ed7},
		{"foobar", 0xbf9cf968},
		{"chongo was here!\n", 0xd49930d5},
	} {
		if got := Sum(c.s); got != c.want {
			t.Errorf("Sum(%q) = %#x, want %#x", c.s, got, c.want)
		}
	}
}

func librarySum(s string) uint32 {
	h := stdfnv.New32a()
	h.Write([]byte(s))
	return h.Sum32()
}

// samples are ordinary keys, every single byte, bytes that are no UTF-8, runes of several bytes, and long texts.
func samples() []string {
	out := []string{"", "key", "0123456789abcdef", "\x00\x00", "\xff\xfe\xfd", "a\x80b", "\xc3", "héllo", "蜂の巣", "\ufffd"}
	all := make([]byte, 256)
	for i := range all {
		all[i] = byte(i)
		out = append(out, string(all[i:i+1]))
	}
	return append(out, string(all), strings.Repeat(string(all), 4096))
}

// P101, Sum: every string is hashed, byte by byte.
func TestSumEveryString(t *testing.T) {
	for _, s := range samples() {
		if got, want := Sum(s), librarySum(s); got != want {
			t.Errorf("Sum of %d bytes, %.20q: %#x, want %#x", len(s), s, got, want)
		}
	}
}

func TestSumOrderOfBytes(t *testing.T) {
	if Sum("ab") == Sum("ba") {
		t.Error("Sum does not tell ab from ba")
	}
}

// P101, Bits: the lowest bits for each depth from 0 to 31, for every string.
func TestBitsEachDepth(t *testing.T) {
	for _, s := range samples()[:40] {
		h := uint64(librarySum(s))
		for depth := range 32 {
			want := int(h % (uint64(1) << depth))
			if got := Bits(s, depth); got != want {
				t.Errorf("Bits(%q, %d) = %d, want %d", s, depth, got, want)
			}
		}
	}
}

func TestBitsKnown(t *testing.T) {
	for _, c := range []struct{ depth, want int }{{0, 0}, {1, 0}, {3, 4}, {4, 12}, {5, 12}, {6, 44}, {31, 0x640c292c}} {
		if got := Bits("a", c.depth); got != c.want {
			t.Errorf(`Bits("a", %d) = %d, want %d`, c.depth, got, c.want)
		}
	}
	if got, want := Bits("", 31), 2166136261-1<<31; got != want {
		t.Errorf(`Bits("", 31) = %d, want %d`, got, want)
	}
}

// P101, Bits: a depth below 0 counts as 0, one above 31 as 31.
func TestBitsDepthOutside(t *testing.T) {
	for _, s := range []string{"", "a", "b", "foobar", "\xff"} {
		for _, depth := range []int{-1, -2, -31, -32, -64, math.MinInt32, math.MinInt} {
			if got := Bits(s, depth); got != 0 {
				t.Errorf("Bits(%q, %d) = %d, want 0", s, depth, got)
			}
		}
		want := int(librarySum(s) & math.MaxInt32)
		for _, depth := range []int{32, 33, 63, 64, 65, 1 << 20, math.MaxInt32, math.MaxInt} {
			if got := Bits(s, depth); got != want {
				t.Errorf("Bits(%q, %d) = %d, want %d", s, depth, got, want)
			}
		}
	}
}

type sizeCase struct {
	s    string
	want bool
}

func checkSizes(t *testing.T, name string, f func(string) bool, cases []sizeCase) {
	t.Helper()
	for _, c := range cases {
		if got := f(c.s); got != c.want {
			t.Errorf("%s of %d bytes, %.20q: %v, want %v", name, len(c.s), c.s, got, c.want)
		}
	}
}

// P101, Key: 1 to MaxKey bytes, whatever they are; bytes count, not runes.
func TestKey(t *testing.T) {
	checkSizes(t, "Key", Key, []sizeCase{
		{"", false},
		{"\x00", true},
		{"\xff", true},
		{" ", true},
		{strings.Repeat("é", 8), true},
		{strings.Repeat("é", 9), false},
		{strings.Repeat("\xff", 16), true},
		{strings.Repeat("\xff", 17), false},
		{strings.Repeat("x", 1<<20), false},
	})
	for n := range 40 {
		checkSizes(t, "Key", Key, []sizeCase{{strings.Repeat("k", n), n >= 1 && n <= api.MaxKey}})
	}
}

// P101, Value: at most MaxValue bytes, none too; bytes count, not runes.
func TestValue(t *testing.T) {
	checkSizes(t, "Value", Value, []sizeCase{
		{"", true},
		{"\x00", true},
		{strings.Repeat("é", 200), true},
		{strings.Repeat("é", 201), false},
		{strings.Repeat("\xff", 400), true},
		{strings.Repeat("\xff", 401), false},
		{strings.Repeat("x", 1<<20), false},
	})
	for n := range 420 {
		checkSizes(t, "Value", Value, []sizeCase{{strings.Repeat("v", n), n <= api.MaxValue}})
	}
}

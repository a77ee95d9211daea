package patch

import (
	"fmt"
	"math"
	"slices"
	"strings"
	"testing"
	"unsafe"

	"honeycomb/api"
)

// ground is a page whose bytes all differ from their neighbours, so that one that moved is seen.
func ground() string {
	b := make([]byte, 256)
	for i := range b {
		b[i] = byte(i*7 + 1)
	}
	return string(b)
}

// other is a page that differs from ground in every byte.
func other() string {
	b := []byte(ground())
	for i := range b {
		b[i] ^= 0x80
	}
	return string(b)
}

// pages are the numbers of pages that there may be, at their edges and between them.
func pages() []int { return []int{0, 1, 2, 31, 62, 63} }

// nonPages are numbers of no page, among them some whose lowest bytes are one's.
func nonPages() []int {
	return []int{-1, -2, -63, -64, -256, 64, 65, 127, 128, 255, 256, 257, 65536, 1 << 31, 1 << 32, 1<<32 + 63, math.MaxInt, math.MinInt, math.MinInt + 1}
}

// nonLengths are lengths of no page.
func nonLengths() []int {
	var out []int
	for n := range 600 {
		if n != 256 {
			out = append(out, n)
		}
	}
	return append(out, 65536, 65536+256)
}

func show(p api.Patch) string {
	return fmt.Sprintf("{page %d at %d, %d bytes %.30q}", p.Page, p.At, len(p.Bytes), p.Bytes)
}

func checkPatch(t *testing.T, what string, got api.Patch, ok bool, want api.Patch, wantOk bool) {
	t.Helper()
	if got != want || ok != wantOk {
		t.Errorf("%s = %s, %v, want %s, %v", what, show(got), ok, show(want), wantOk)
	}
}

func checkDiff(t *testing.T, page int, old, now string, want api.Patch, wantOk bool) {
	t.Helper()
	got, ok := Diff(page, old, now)
	checkPatch(t, fmt.Sprintf("Diff(%d)", page), got, ok, want, wantOk)
}

func checkWhole(t *testing.T, page int, now string, want api.Patch, wantOk bool) {
	t.Helper()
	got, ok := Whole(page, now)
	checkPatch(t, fmt.Sprintf("Whole(%d)", page), got, ok, want, wantOk)
}

func checkBytes(t *testing.T, what, got string, ok bool, want string, wantOk bool) {
	t.Helper()
	if got != want || ok != wantOk {
		t.Errorf("%s = %d bytes %.40q, %v, want %d bytes %.40q, %v", what, len(got), got, ok, len(want), want, wantOk)
	}
}

func checkApply(t *testing.T, b string, p api.Patch, want string, wantOk bool) {
	t.Helper()
	got, ok := Apply(b, p)
	checkBytes(t, "Apply of "+show(p), got, ok, want, wantOk)
}

func checkAll(t *testing.T, what, b string, page int, l []api.Patch, want string, wantOk bool) {
	t.Helper()
	got, ok := All(b, page, l...)
	checkBytes(t, fmt.Sprintf("All(%d), %s", page, what), got, ok, want, wantOk)
}

// turned is b with those bytes turned to others.
func turned(b string, at ...int) string {
	out := []byte(b)
	for _, i := range at {
		out[i] ^= 0x55
	}
	return string(out)
}

// laid is b with s laid over it at that place, both as they should be.
func laid(b string, at int, s string) string { return b[:at] + s + b[at+len(s):] }

// P601, Right: At and the length of Bytes, each as far as it may go and beyond.
func TestRightPlaces(t *testing.T) {
	long := strings.Repeat("x", 300)
	for at := -3; at <= 300; at++ {
		for n := range 301 {
			want := at >= 0 && n >= 1 && at+n <= 256
			if got := Right(api.Patch{Page: 1, At: at, Bytes: long[:n]}); got != want {
				t.Fatalf("Right at %d with %d bytes is %v", at, n, got)
			}
		}
	}
	if !Right(api.Patch{At: 255, Bytes: "x"}) {
		t.Error("a patch with At 255 and one byte is not Right")
	}
}

// P601, Right: At so far off that adding the length wraps round.
func TestRightFar(t *testing.T) {
	for _, n := range []int{1, 2, 3, 256, 257, 1000} {
		s := strings.Repeat("x", n)
		for _, at := range []int{math.MaxInt, math.MaxInt - 1, math.MaxInt - n, math.MaxInt - n + 1, math.MaxInt - n + 2, math.MinInt, math.MinInt + 1, -n, -1, -256, 1 << 31, 1<<31 - 1, 1 << 32, 1<<32 + 1, 1 << 16, 256, 257} {
			if p := (api.Patch{At: at, Bytes: s}); Right(p) {
				t.Errorf("%s is Right", show(p))
			}
		}
	}
}

// P601, Right: Page is 0 to MaxPages - 1.
func TestRightPage(t *testing.T) {
	for page := range 64 {
		if !Right(api.Patch{Page: page, At: 0, Bytes: "x"}) {
			t.Errorf("page %d is not Right", page)
		}
	}
	for _, page := range nonPages() {
		if Right(api.Patch{Page: page, At: 0, Bytes: "x"}) {
			t.Errorf("page %d is Right", page)
		}
	}
	if Right(api.Patch{}) {
		t.Error("the zero patch is Right")
	}
}

// P601, Right: bytes are counted, not runes.
func TestRightRunes(t *testing.T) {
	if p := (api.Patch{Bytes: strings.Repeat("é", 129)}); Right(p) {
		t.Errorf("%s is Right", show(p))
	}
	if p := (api.Patch{Bytes: strings.Repeat("é", 128)}); !Right(p) {
		t.Errorf("%s is not Right", show(p))
	}
}

// P601, Diff: from the first to the last position that differs, whatever lies between, for every two positions.
func TestDiffPlaces(t *testing.T) {
	old := ground()
	for first := range 256 {
		for last := first; last < 256; last++ {
			now := turned(old, first)
			if last > first {
				now = turned(now, last)
			}
			checkDiff(t, 7, old, now, api.Patch{Page: 7, At: first, Bytes: now[first : last+1]}, true)
		}
	}
}

// P601, Diff: the bytes are those of now, those between that do not differ included.
func TestDiffBytes(t *testing.T) {
	old := ground()
	three := laid(laid(old, 3, "!"), 5, "?")
	checkDiff(t, 1, old, three, api.Patch{Page: 1, At: 3, Bytes: "!" + old[4:5] + "?"}, true)
	checkDiff(t, 1, three, old, api.Patch{Page: 1, At: 3, Bytes: old[3:6]}, true)
	checkDiff(t, 1, old, other(), api.Patch{Page: 1, At: 0, Bytes: other()}, true)
	many := turned(old, 10, 20, 21, 22, 100, 200)
	checkDiff(t, 1, old, many, api.Patch{Page: 1, At: 10, Bytes: many[10:201]}, true)
	zeros := strings.Repeat("\x00", 256)
	checkDiff(t, 1, zeros, laid(zeros, 128, "\xff"), api.Patch{Page: 1, At: 128, Bytes: "\xff"}, true)
	checkDiff(t, 1, laid(zeros, 128, "\xff"), zeros, api.Patch{Page: 1, At: 128, Bytes: "\x00"}, true)
}

// P601, Diff: every single byte turned to every other.
func TestDiffEachByte(t *testing.T) {
	old := ground()
	for at := range 256 {
		for c := range 256 {
			one := string([]byte{byte(c)})
			if c == int(old[at]) {
				checkDiff(t, 2, old, laid(old, at, one), api.Patch{}, false)
				continue
			}
			checkDiff(t, 2, old, laid(old, at, one), api.Patch{Page: 2, At: at, Bytes: one}, true)
		}
	}
}

// P601, Diff and Whole: false if page is not 0 to MaxPages - 1.
func TestMadePage(t *testing.T) {
	old, now := ground(), other()
	for page := range 64 {
		checkDiff(t, page, old, now, api.Patch{Page: page, Bytes: now}, true)
		checkWhole(t, page, now, api.Patch{Page: page, Bytes: now}, true)
	}
	for _, page := range nonPages() {
		checkDiff(t, page, old, now, api.Patch{}, false)
		checkWhole(t, page, now, api.Patch{}, false)
	}
}

// P601, Diff and Whole: false if a page does not have PageSize bytes.
func TestMadeLength(t *testing.T) {
	old, now := ground(), other()
	for _, n := range nonLengths() {
		s := strings.Repeat("s", n)
		checkDiff(t, 1, s, now, api.Patch{}, false)
		checkDiff(t, 1, old, s, api.Patch{}, false)
		checkDiff(t, 1, s, strings.Repeat("z", n), api.Patch{}, false)
		checkDiff(t, 1, s, s, api.Patch{}, false)
		checkWhole(t, 1, s, api.Patch{}, false)
	}
	checkDiff(t, 1, old, old+"x", api.Patch{}, false)
	checkDiff(t, 1, old[:255], old, api.Patch{}, false)
	checkWhole(t, 1, strings.Repeat("é", 256), api.Patch{}, false)
}

// P601, Diff: false if old and now are equal, also where they do not lie in the same place.
func TestDiffEqual(t *testing.T) {
	for _, b := range []string{ground(), other(), strings.Repeat("\x00", 256), strings.Repeat("é", 128)} {
		checkDiff(t, 1, b, b, api.Patch{}, false)
		checkDiff(t, 1, b, strings.Clone(b), api.Patch{}, false)
		checkDiff(t, 64, b, b, api.Patch{}, false)
	}
}

// P601, Whole: At 0 and all bytes, whatever they are.
func TestWhole(t *testing.T) {
	for _, b := range []string{ground(), other(), strings.Repeat("\x00", 256), strings.Repeat("\xff", 256), strings.Repeat("é", 128)} {
		for _, page := range pages() {
			checkWhole(t, page, b, api.Patch{Page: page, Bytes: b}, true)
			p, _ := Whole(page, b)
			checkApply(t, other(), p, b, true)
		}
	}
}

// P601, Apply: every place and every length that fit in a page.
func TestApplyPlaces(t *testing.T) {
	b, s := ground(), other()
	for at := range 256 {
		for n := 1; at+n <= 256; n++ {
			checkApply(t, b, api.Patch{Page: 3, At: at, Bytes: s[:n]}, laid(b, at, s[:n]), true)
		}
	}
}

// P601, Apply: the Page is not compared with anything, but must be that of a Right patch.
func TestApplyPage(t *testing.T) {
	b := ground()
	for page := range 64 {
		checkApply(t, b, api.Patch{Page: page, At: 9, Bytes: "nine"}, laid(b, 9, "nine"), true)
	}
	for _, page := range nonPages() {
		checkApply(t, b, api.Patch{Page: page, At: 9, Bytes: "nine"}, "", false)
	}
}

// wrongs are patches that are not Right.
func wrongs() []api.Patch {
	out := []api.Patch{
		{},
		{Page: 1},
		{Page: 1, At: 255},
		{Page: 1, At: 256},
		{Page: 1, At: -1, Bytes: "x"},
		{Page: 1, At: -1, Bytes: strings.Repeat("x", 256)},
		{Page: 1, At: 256, Bytes: "x"},
		{Page: 1, At: 255, Bytes: "xx"},
		{Page: 1, At: 1, Bytes: strings.Repeat("x", 256)},
		{Page: 1, At: 0, Bytes: strings.Repeat("x", 257)},
		{Page: 1, At: math.MaxInt, Bytes: "x"},
		{Page: 1, At: math.MaxInt, Bytes: "xx"},
		{Page: 1, At: math.MinInt, Bytes: "xx"},
	}
	for _, page := range nonPages() {
		out = append(out, api.Patch{Page: page, Bytes: "x"})
	}
	return out
}

// P601, Apply: false if the patch is not Right.
func TestApplyWrong(t *testing.T) {
	for _, p := range wrongs() {
		checkApply(t, ground(), p, "", false)
	}
}

// P601, Apply and All: false if b does not have PageSize bytes, even if the patch would fit.
func TestAppliedLength(t *testing.T) {
	for _, n := range nonLengths() {
		b := strings.Repeat("s", n)
		p := api.Patch{Page: 1, At: 0, Bytes: "x"}
		checkApply(t, b, p, "", false)
		checkAll(t, "no patches", b, 1, nil, "", false)
		checkAll(t, "a patch of it", b, 1, []api.Patch{p}, "", false)
		checkAll(t, "a patch of another", b, 2, []api.Patch{p}, "", false)
	}
}

// P601: what Diff makes, Apply brings about.
func TestDiffApply(t *testing.T) {
	old := ground()
	for _, now := range []string{turned(old, 0), turned(old, 255), turned(old, 0, 255), turned(old, 15, 16), turned(old, 100, 101, 180), other(), strings.Repeat("\x00", 256)} {
		p, ok := Diff(63, old, now)
		if !ok || !Right(p) {
			t.Errorf("Diff = %s, %v, which should be Right", show(p), ok)
		}
		checkApply(t, old, p, now, true)
		checkApply(t, now, p, now, true)
	}
}

// P601, All: without patches of the page, b as it is, also for a number that is none of a page.
func TestAllNone(t *testing.T) {
	b := ground()
	l := []api.Patch{{Page: 2, At: 0, Bytes: "two"}, {Page: 63, At: 10, Bytes: "last"}}
	for _, page := range append(nonPages(), 0, 1, 3, 62) {
		checkAll(t, "nil", b, page, nil, b, true)
		checkAll(t, "empty", b, page, []api.Patch{}, b, true)
		checkAll(t, "others", b, page, l, b, true)
	}
}

// P601, All: the patches of this page alone.
func TestAllOwn(t *testing.T) {
	b := ground()
	l := []api.Patch{
		{Page: 0, At: 0, Bytes: "zero"},
		{Page: 1, At: 2, Bytes: "one"},
		{Page: 63, At: 250, Bytes: "sixty"},
		{Page: 1, At: 100, Bytes: "more"},
		{Page: 0, At: 100, Bytes: "none"},
	}
	checkAll(t, "mixed", b, 0, l, laid(laid(b, 0, "zero"), 100, "none"), true)
	checkAll(t, "mixed", b, 1, l, laid(laid(b, 2, "one"), 100, "more"), true)
	checkAll(t, "mixed", b, 63, l, laid(b, 250, "sixty"), true)
	checkAll(t, "mixed", b, 2, l, b, true)
	checkAll(t, "mixed", b, 64, l, b, true)
}

// P601, All: in order, a later patch over an earlier one.
func TestAllOrder(t *testing.T) {
	b := ground()
	wide, in := api.Patch{Page: 4, At: 10, Bytes: "abcdef"}, api.Patch{Page: 4, At: 12, Bytes: "XY"}
	over := api.Patch{Page: 4, At: 14, Bytes: "123456"}
	foreign := api.Patch{Page: 5, At: 10, Bytes: "------"}
	checkAll(t, "in last", b, 4, []api.Patch{wide, foreign, in}, laid(b, 10, "abXYef"), true)
	checkAll(t, "in first", b, 4, []api.Patch{in, foreign, wide}, laid(b, 10, "abcdef"), true)
	checkAll(t, "over last", b, 4, []api.Patch{wide, in, over}, laid(b, 10, "abXY123456"), true)
	checkAll(t, "over first", b, 4, []api.Patch{over, in, wide}, laid(b, 10, "abcdef3456"), true)
	checkAll(t, "over between", b, 4, []api.Patch{in, over, wide, in}, laid(b, 10, "abXYef3456"), true)
	checkAll(t, "whole last", b, 4, []api.Patch{wide, {Page: 4, Bytes: other()}}, other(), true)
	checkAll(t, "whole first", b, 4, []api.Patch{{Page: 4, Bytes: other()}, wide}, laid(other(), 10, "abcdef"), true)
	checkAll(t, "twice", b, 4, []api.Patch{wide, wide}, laid(b, 10, "abcdef"), true)
}

// P601, All: false if any patch is not Right, of whichever page and wherever in the list.
func TestAllWrong(t *testing.T) {
	b := ground()
	good := []api.Patch{{Page: 1, At: 0, Bytes: "one"}, {Page: 2, At: 0, Bytes: "two"}, {Page: 1, At: 5, Bytes: "more"}}
	for _, p := range wrongs() {
		for at := range len(good) + 1 {
			l := slices.Insert(slices.Clone(good), at, p)
			for _, page := range []int{p.Page, 0, 1, 2, 3, 63, 64, -1} {
				checkAll(t, show(p), b, page, l, "", false)
			}
		}
		checkAll(t, "alone", b, 0, []api.Patch{p}, "", false)
		checkAll(t, "alone", b, p.Page, []api.Patch{p}, "", false)
	}
}

// P601, All: many patches, held against what Apply makes of them one by one.
func TestAllMany(t *testing.T) {
	var l []api.Patch
	for i := range 2000 {
		at := i * 37 % 256
		n := 1 + i*11%(256-at)
		l = append(l, api.Patch{Page: i * 5 % 7, At: at, Bytes: strings.Repeat(string([]byte{byte(i)}), n)})
	}
	for page := range 8 {
		want := ground()
		for _, p := range l {
			if p.Page == page {
				want, _ = Apply(want, p)
			}
		}
		checkAll(t, "many", ground(), page, l, want, true)
	}
}

// DOC.md, rule 2: All does not modify its list.
func TestAllKeeps(t *testing.T) {
	l := []api.Patch{{Page: 2, At: 3, Bytes: "two"}, {Page: 1, At: 4, Bytes: "one"}, {Page: 2, At: 3, Bytes: "2"}}
	before := slices.Clone(l)
	All(ground(), 2, l...)
	All(ground(), 1, append(l[:2:2], api.Patch{})...)
	if !slices.Equal(l, before) {
		t.Errorf("the list became %v", l)
	}
}

// overlap reports whether two texts share memory.
func overlap(a, b string) bool {
	x, y := uintptr(unsafe.Pointer(unsafe.StringData(a))), uintptr(unsafe.Pointer(unsafe.StringData(b)))
	return len(a) > 0 && len(b) > 0 && x < y+uintptr(len(b)) && y < x+uintptr(len(a))
}

// DOC.md, rule 2: results share no memory with arguments.
func TestNewMemory(t *testing.T) {
	old, now := ground(), other()
	diff, _ := Diff(1, old, now)
	whole, _ := Whole(1, now)
	applied, _ := Apply(old, whole)
	all, _ := All(old, 2, whole)
	for what, s := range map[string]string{"Diff": diff.Bytes, "Whole": whole.Bytes, "Apply": applied, "All": all} {
		if overlap(s, old) || overlap(s, now) {
			t.Errorf("the answer of %s shares memory with an argument", what)
		}
	}
	if overlap(applied, whole.Bytes) {
		t.Error("the answer of Apply shares memory with its patch")
	}
}

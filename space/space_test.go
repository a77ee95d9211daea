package space

import (
	"fmt"
	"math"
	"slices"
	"strings"
	"testing"

	"honeycomb/api"
)

// body is the body that tells of pages: a U for each that is used, an F for each that is free.
func body(marks string) string {
	b := make([]byte, 240)
	for n, c := range []byte(marks) {
		switch c {
		case 'U':
			b[n] = 1
		case 'F':
			b[n] = 2
		}
	}
	return string(b)
}

// mapOf is a map whose Depth and Next are not those of a new one.
func mapOf(marks string) api.Page {
	return api.Page{Kind: 2, Depth: 3, Next: 41, Body: body(marks)}
}

// turned is marks with another one for page n.
func turned(marks string, n int, mark byte) string {
	b := []byte(marks)
	b[n] = mark
	return string(b)
}

// numbers is a row of numbers that look like chance and are always the same.
func numbers(seed uint32) func(below int) int {
	return func(below int) int {
		seed = seed*1664525 + 1013904223
		return int(seed>>8) % below
	}
}

// outside are numbers outside 0 to pages - 1, among them some whose lowest bytes are in it.
func outside(pages int) []int {
	l := []int{-1, -2, -8, -256, -254, -65536 + 2, 240, 255, 256, 258, 65536, 65538, 1 << 31, 1 << 32, 1<<32 + 2, math.MaxInt, math.MinInt, math.MinInt + 2}
	for n := pages; n <= 240; n++ { // among them those whose byte is 0 and those behind the greatest map
		l = append(l, n)
	}
	return l
}

// samples are the marks of maps of each size, with few, many and no free pages at each place.
func samples() []string {
	var l []string
	for pages := 8; pages <= 64; pages++ {
		all, none := "UU"+strings.Repeat("F", pages-2), strings.Repeat("U", pages)
		l = append(l, all, none)
		for n := 2; n < pages; n++ {
			l = append(l, turned(all, n, 'U'), turned(none, n, 'F'))
		}
		next := numbers(uint32(pages))
		for range 20 {
			some := all
			for n := 2; n < pages; n++ {
				some = turned(some, n, "UF"[next(2)])
			}
			l = append(l, some)
		}
	}
	return l
}

func show(p api.Page) string {
	return fmt.Sprintf("{%d %d %d, %d bytes %.70q}", p.Kind, p.Depth, p.Next, len(p.Body), p.Body)
}

func checkNew(t *testing.T, pages int, want api.Page, wantOk bool) {
	t.Helper()
	if got, ok := New(pages); got != want || ok != wantOk {
		t.Errorf("New(%d) = %s, %v, want %s, %v", pages, show(got), ok, show(want), wantOk)
	}
}

func checkTake(t *testing.T, p, want api.Page, wantPage int, wantErr api.Errno) {
	t.Helper()
	if got, n, err := Take(p); got != want || n != wantPage || err != wantErr {
		t.Errorf("Take of %s = %s, %d, %d, want %s, %d, %d", show(p), show(got), n, err, show(want), wantPage, wantErr)
	}
}

func checkGive(t *testing.T, p api.Page, n int, want api.Page, wantErr api.Errno) {
	t.Helper()
	if got, err := Give(p, n); got != want || err != wantErr {
		t.Errorf("Give of %d to %s = %s, %d, want %s, %d", n, show(p), show(got), err, show(want), wantErr)
	}
}

func checkUsed(t *testing.T, p api.Page, n int, want bool) {
	t.Helper()
	if got := Used(p, n); got != want {
		t.Errorf("Used(%s, %d) = %v, want %v", show(p), n, got, want)
	}
}

func checkCounts(t *testing.T, p api.Page, pages, free int) {
	t.Helper()
	if got := Pages(p); got != pages {
		t.Errorf("Pages(%s) = %d, want %d", show(p), got, pages)
	}
	if got := Free(p); got != free {
		t.Errorf("Free(%s) = %d, want %d", show(p), got, free)
	}
}

// checkMap holds what is told of a map against its marks.
func checkMap(t *testing.T, p api.Page, marks string) {
	t.Helper()
	free := 0
	for n, c := range marks {
		checkUsed(t, p, n, c == 'U')
		if c == 'F' {
			free++
		}
	}
	for _, n := range outside(len(marks)) {
		checkUsed(t, p, n, false)
	}
	checkCounts(t, p, len(marks), free)
}

// checkNone is for a page that is not a map, whatever is asked of it.
func checkNone(t *testing.T, p api.Page) {
	t.Helper()
	checkTake(t, p, api.Page{}, 0, api.ErrForm)
	for _, n := range []int{-1, 0, 1, 2, 3, 7, 8, 63, 64, 239, 240, math.MaxInt, math.MinInt} {
		checkGive(t, p, n, api.Page{}, api.ErrForm)
		checkUsed(t, p, n, false)
	}
	checkCounts(t, p, 0, 0)
}

// The chapter's examples.
func TestExamples(t *testing.T) {
	p, ok := New(8)
	if !ok || Free(p) != 6 {
		t.Errorf("New(8) = %s, %v with %d free pages, want 6", show(p), ok, Free(p))
	}
	if _, n, err := Take(p); n != 2 || err != api.OK {
		t.Errorf("Take of a new map = %d, %d, want page 2", n, err)
	}
}

// P901, New: a map of each size that may be, with Depth and Next 0, in which only the pages 0 and 1 are used.
func TestNew(t *testing.T) {
	for pages := 8; pages <= 64; pages++ {
		marks := "UU" + strings.Repeat("F", pages-2)
		p := api.Page{Kind: 2, Body: body(marks)}
		checkNew(t, pages, p, true)
		checkMap(t, p, marks)
	}
	eight := "\x01\x01\x02\x02\x02\x02\x02\x02" + strings.Repeat("\x00", 232)
	checkNew(t, api.MinPages, api.Page{Kind: api.Map, Body: eight}, true)
}

// P901, New: false for every other number.
func TestNewNumbers(t *testing.T) {
	l := append(outside(65), 0, 1, 2, 3, 6, 7, 256+8, 256+64, 65536+8, 1<<32+8, math.MinInt+8)
	for _, pages := range l {
		checkNew(t, pages, api.Page{}, false)
	}
}

// P901: what is told of a map, of each size, with used and free pages at each place.
func TestMaps(t *testing.T) {
	for _, marks := range samples() {
		checkMap(t, mapOf(marks), marks)
	}
}

// P901, Take: the least free page, wherever it is; ErrDisk if there is none. Depth and Next are as they were.
func TestTake(t *testing.T) {
	for _, marks := range samples() {
		n := strings.IndexByte(marks, 'F')
		if n < 0 {
			checkTake(t, mapOf(marks), api.Page{}, 0, api.ErrDisk)
		} else {
			checkTake(t, mapOf(marks), mapOf(turned(marks, n, 'U')), n, api.OK)
		}
	}
}

// P901, Give: each used page but 0 and 1; ErrArg for those two, for each free one, and where there is no page. Depth and Next are as they were.
func TestGive(t *testing.T) {
	for _, marks := range samples() {
		for n, c := range marks {
			if n > 1 && c == 'U' {
				checkGive(t, mapOf(marks), n, mapOf(turned(marks, n, 'F')), api.OK)
			} else {
				checkGive(t, mapOf(marks), n, api.Page{}, api.ErrArg)
			}
		}
		for _, n := range outside(len(marks)) {
			checkGive(t, mapOf(marks), n, api.Page{}, api.ErrArg)
		}
	}
}

// P901: pages are taken from a new map in ascending order until none is free, and given back in any order.
func TestAll(t *testing.T) {
	for pages := 8; pages <= 64; pages++ {
		p, _ := New(pages)
		for n := 2; n < pages; n++ {
			marks := strings.Repeat("U", n+1) + strings.Repeat("F", pages-n-1)
			want := api.Page{Kind: 2, Body: body(marks)}
			checkTake(t, p, want, n, api.OK)
			checkMap(t, want, marks)
			p = want
		}
		checkTake(t, p, api.Page{}, 0, api.ErrDisk)
		for i := range pages - 2 {
			p, _ = Give(p, 2+(i*67+5)%(pages-2)) // 67 is a prime above all sizes, so each page has its turn
			checkCounts(t, p, pages, i+1)
		}
		again, _ := New(pages)
		if p != again {
			t.Errorf("all %d pages given back: %s", pages, show(p))
		}
	}
}

// P901: long runs of calls, held against a set of the free pages.
func TestRuns(t *testing.T) {
	for seed := range uint32(60) {
		next := numbers(seed)
		marks := "UU" + strings.Repeat("F", 6+next(57))
		p := mapOf(marks)
		for range 400 {
			if next(2) == 0 {
				n := next(len(marks)+4) - 2
				if q, err := Give(p, n); err == api.OK {
					p, marks = q, turned(marks, n, 'F')
				} else if n >= 2 && n < len(marks) && marks[n] == 'U' {
					t.Errorf("Give of %d to %s = %d", n, marks, err)
				}
			} else if q, n, err := Take(p); err == api.OK {
				p, marks = q, turned(marks, n, 'U')
			}
			if p != mapOf(marks) {
				t.Fatalf("the page is %s, want %s", show(p), marks)
			}
		}
		checkMap(t, p, marks)
	}
}

// P901: Depth and Next may have any value and are not changed.
func TestDepthNext(t *testing.T) {
	wide := []int{0, 1, 5, 6, 63, 64, 255, 256, 65536, math.MaxInt, -1, -256, math.MinInt}
	marks := "UUUFUFFUFU"
	for _, depth := range wide {
		for _, next := range wide {
			p := api.Page{Kind: 2, Depth: depth, Next: next, Body: body(marks)}
			checkMap(t, p, marks)
			want := p
			want.Body = body(turned(marks, 3, 'U'))
			checkTake(t, p, want, 3, api.OK)
			want.Body = body(turned(marks, 2, 'F'))
			checkGive(t, p, 2, want, api.OK)
			checkGive(t, p, 3, api.Page{}, api.ErrArg)
			p.Body = body(strings.Repeat("U", 8))
			checkTake(t, p, api.Page{}, 0, api.ErrDisk)
		}
	}
}

// P901: a page of another kind is not a map, whatever its Body.
func TestKinds(t *testing.T) {
	checkNone(t, api.Page{})
	for _, kind := range []int{0, 1, 3, 4, 5, 6, -1, -2, 256 + 2, 65536 + 2, 1<<32 + 2, math.MaxInt, math.MinInt, math.MinInt + 2} {
		for _, marks := range []string{"", "UUFFFFFF", "UUUUUUUU", "UU" + strings.Repeat("UF", 31)} {
			checkNone(t, api.Page{Kind: kind, Body: body(marks)})
		}
	}
}

// P901: there are MinPages to MaxPages pages.
func TestSizes(t *testing.T) {
	for pages := range 241 {
		var l []string
		for _, rest := range []string{"U", "F", "UF", "FU"} {
			l = append(l, ("UU" + strings.Repeat(rest, 240))[:pages])
		}
		for _, marks := range l {
			if p := mapOf(marks); pages < 8 || pages > 64 {
				checkNone(t, p)
			} else {
				checkMap(t, p, marks)
			}
		}
	}
}

// P901: the pages 0 and 1 are used.
func TestFirst(t *testing.T) {
	for _, rest := range []string{"FFFFFF", "UUUUUU", "UUFFFFFFFF", strings.Repeat("FU", 31)} {
		for _, first := range []string{"FF", "UF", "FU", "-U", "U-", "--", "-F", "F-"} {
			checkNone(t, mapOf(first+rest))
		}
	}
}

// P901: any one byte turned to any other: a map again only where it is still one byte of 1 or 2 for each page and zero bytes behind them.
func TestEachByte(t *testing.T) {
	for _, marks := range []string{"UUFFFFFF", "UUUUUUUU", "UUFUFUFUF", "UU" + strings.Repeat("UF", 31), "UU" + strings.Repeat("FU", 30) + "F"} {
		for at := range 240 {
			if t.Failed() { // one fault is to be told, not thousands
				return
			}
			for c := range 256 {
				b := []byte(body(marks))
				b[at] = byte(c)
				p := api.Page{Kind: 2, Depth: 1, Next: 7, Body: string(b)}
				if want, ok := again(marks, at, c); ok {
					checkMap(t, p, want)
				} else {
					checkNone(t, p)
				}
			}
		}
	}
}

// again is the marks as they are when the byte at that place of the body is c, or false if that is no map.
func again(marks string, at, c int) (string, bool) {
	pages := len(marks)
	switch {
	case at > pages:
		return marks, c == 0
	case at == pages && c == 0:
		return marks, true
	case at == pages && pages == 64, c > 2:
		return "", false
	case c > 0:
		mark := " UF"[c : c+1]
		next := marks[:at] + mark + marks[min(at+1, pages):]
		return next, at > 1 || mark == "U"
	}
	return marks[:at], at == pages-1 && pages > 8
}

// P901: a Body of another length than Room is that of no page, and so of no map.
func TestLength(t *testing.T) {
	for _, marks := range []string{"UUFFFFFF", "UUUUUUUUUU", "UU" + strings.Repeat("UF", 31)} {
		long := body(marks) + strings.Repeat("\x00", 300)
		for n := range long {
			if n != 240 {
				checkNone(t, api.Page{Kind: 2, Body: long[:n]})
			}
		}
		checkNone(t, api.Page{Kind: 2, Body: body(marks) + body(marks)})
		checkNone(t, api.Page{Kind: 2, Body: "\x00" + body(marks)[:239]})
	}
}

// P901: texts that are like the numbers 1 and 2 are none of them.
func TestTexts(t *testing.T) {
	for _, b := range []string{"UUFFFFFF", "11222222", "\x01\x01é\x02\x02\x02\x02", "\x01\x01\xff\x02\x02\x02\x02\x02", "\x01\x01\xef\xbf\xbd\x02\x02\x02\x02"} {
		checkNone(t, api.Page{Kind: 2, Body: b + strings.Repeat("\x00", 240-len(b))})
	}
}

// The numbers of the limits, as the other tests have them.
func TestLimits(t *testing.T) {
	got := []int{api.MinPages, api.MaxPages, api.Map, api.Room}
	if want := []int{8, 64, 2, 240}; !slices.Equal(got, want) {
		t.Errorf("the limits are %v, want %v", got, want)
	}
}

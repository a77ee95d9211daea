package blob

import (
	"fmt"
	"math"
	"slices"
	"strings"
	"testing"
	"unsafe"

	"honeycomb/api"
)

// numbers is a row of numbers that look like chance and are always the same.
func numbers(seed uint32) func(below int) int {
	return func(below int) int {
		seed = seed*1664525 + 1013904223
		return int(seed>>8) % below
	}
}

// text is a value of this size without zero bytes, in which no two pages are alike.
func text(size int) string {
	b := make([]byte, size)
	for i := range b {
		b[i] = byte(1 + i*7%251)
	}
	return string(b)
}

// sorts are values of this size: without zero bytes, of zero bytes alone, with zero bytes at either end, and of other bytes.
func sorts(size int) []string {
	l := []string{
		text(size),
		strings.Repeat("\x00", size),
		strings.Repeat("\xff", size),
		strings.Repeat("\xc3\xa9\x00", size)[:size],
		text(size-1) + "\x00",
		"\x00" + text(size-1),
		strings.Repeat("\x00", size-1) + "x",
		"x" + strings.Repeat("\x00", size-1),
	}
	next := numbers(uint32(size))
	b := make([]byte, size)
	for i := range b {
		b[i] = byte(next(256))
	}
	return append(l, string(b))
}

// needs is how many pages a value of this size needs.
func needs(size int) int {
	switch {
	case size >= 41 && size <= 200:
		return 1
	case size >= 201 && size <= 400:
		return 2
	}
	return 0
}

// body is a Body that begins with these bytes.
func body(s string) string {
	b := make([]byte, 240)
	copy(b, s)
	return string(b)
}

// chain are the pages of a value, laid out by their bytes, with these as the Next of each.
func chain(value string, next ...int) []api.Page {
	var l []api.Page
	for i, n := range next {
		b := make([]byte, 240)
		for at := range 200 {
			if i*200+at < len(value) {
				b[at] = value[i*200+at]
			}
		}
		l = append(l, api.Page{Kind: 5, Next: n, Body: string(b)})
	}
	return l
}

// chained are the pages of a value, as many as it needs.
func chained(value string) []api.Page {
	if needs(len(value)) == 1 {
		return chain(value, 0)
	}
	return chain(value, 9, 0)
}

// wide are numbers of all sorts, among them some whose lowest bytes may be a page, a kind, or a size.
func wide() []int {
	return []int{0, 1, 2, 3, 4, 5, 6, 9, 40, 41, 62, 63, 64, 65, 127, 128, 200, 255, 256, 256 + 2, 256 + 5, 256 + 63, 300, 512, 32768, 65535, 65536, 65536 + 5, 65536 + 41, 1 << 31, 1<<31 + 5, 1 << 32, 1<<32 + 5, 1<<32 + 200, math.MaxInt, -1, -2, -5, -41, -63, -200, -256, -256 + 5, -65536 + 2, -1 << 31, -1 << 32, math.MinInt, math.MinInt + 2, math.MinInt + 5, math.MinInt + 200}
}

func show(l []api.Page) string {
	var s strings.Builder
	for _, p := range l {
		fmt.Fprintf(&s, "{%d %d %d, %d bytes %.20q} ", p.Kind, p.Depth, p.Next, len(p.Body), p.Body)
	}
	return s.String()
}

func checkPages(t *testing.T, size, want int) {
	t.Helper()
	if got := Pages(size); got != want {
		t.Errorf("Pages(%d) = %d, want %d", size, got, want)
	}
}

func checkPut(t *testing.T, value string, pages []int, want []api.Page) {
	t.Helper()
	if got, ok := Put(value, pages...); !ok || !slices.Equal(got, want) {
		t.Errorf("Put of %d bytes %.20q in %v = %s, %v, want %s", len(value), value, pages, show(got), ok, show(want))
	}
}

func checkPutNone(t *testing.T, value string, pages ...int) {
	t.Helper()
	if got, ok := Put(value, pages...); ok || len(got) != 0 {
		t.Errorf("Put of %d bytes in %v = %s, %v, want none", len(value), pages, show(got), ok)
	}
}

func checkGet(t *testing.T, size int, l []api.Page, want string) {
	t.Helper()
	if got, ok := Get(size, l...); got != want || !ok {
		t.Errorf("Get(%d) of %s= %d bytes %.20q, %v, want %d bytes %.20q", size, show(l), len(got), got, ok, len(want), want)
	}
}

func checkGetNone(t *testing.T, size int, l ...api.Page) {
	t.Helper()
	if got, ok := Get(size, l...); got != "" || ok {
		t.Errorf("Get(%d) of %s= %d bytes %.20q, %v, want none", size, show(l), len(got), got, ok)
	}
}

// The chapter's examples.
func TestExamples(t *testing.T) {
	checkPages(t, 201, 2)
	checkPutNone(t, text(41))
}

// P1101, Pages: each size near those that may be, and far ones.
func TestPages(t *testing.T) {
	for size := -1000; size < 3000; size++ {
		checkPages(t, size, needs(size))
	}
	for _, size := range wide() {
		checkPages(t, size, needs(size))
	}
	for size, want := range map[int]int{40: 0, 41: 1, 199: 1, 200: 1, 201: 2, 399: 2, 400: 2, 401: 0} {
		checkPages(t, size, want)
	}
}

// P1101, Put and Get: values of each size and of all sorts of bytes.
func TestSizes(t *testing.T) {
	for size := 41; size <= 400; size++ {
		for _, value := range sorts(size) {
			if needs(size) == 1 {
				checkPut(t, value, []int{2}, chain(value, 0))
				checkPut(t, value, []int{63}, chain(value, 0))
				checkGet(t, size, chain(value, 0), value)
				continue
			}
			checkPut(t, value, []int{2, 63}, chain(value, 63, 0))
			checkPut(t, value, []int{63, 2}, chain(value, 2, 0))
			checkGet(t, size, chain(value, 63, 0), value)
			checkGet(t, size, chain(value, 2, 0), value)
		}
	}
}

// P1101, Put: the pages as they are written out.
func TestPutKnown(t *testing.T) {
	first, second := strings.Repeat("a", 200), strings.Repeat("b", 3)
	zeros := strings.Repeat("\x00", 240)
	checkPut(t, first+second, []int{5, 3}, []api.Page{
		{Kind: api.Blob, Next: 3, Body: first + zeros[:40]},
		{Kind: api.Blob, Next: 0, Body: second + zeros[:237]},
	})
	checkPut(t, first, []int{7}, []api.Page{{Kind: api.Blob, Body: first + zeros[:40]}})
	checkPut(t, strings.Repeat("c", 41), []int{7}, []api.Page{{Kind: api.Blob, Body: strings.Repeat("c", 41) + zeros[:199]}})
}

// P1101, Put: each pair of pages; false if one of them may not be, or if they are the same one.
func TestPutPairs(t *testing.T) {
	value := text(321)
	may := func(n int) bool { return n >= 2 && n <= 63 }
	l := wide()
	for n := -3; n <= 70; n++ {
		l = append(l, n)
	}
	for _, a := range l {
		for _, b := range l {
			if may(a) && may(b) && a != b {
				checkPut(t, value, []int{a, b}, chain(value, b, 0))
			} else {
				checkPutNone(t, value, a, b)
			}
		}
	}
}

// P1101, Put: each page for a value that needs one.
func TestPutPage(t *testing.T) {
	value := text(77)
	l := wide()
	for n := -300; n < 700; n++ {
		l = append(l, n)
	}
	for _, n := range l {
		if n >= 2 && n <= 63 {
			checkPut(t, value, []int{n}, chain(value, 0))
		} else {
			checkPutNone(t, value, n)
		}
	}
}

// P1101, Put: false if there are not as many pages as the value needs, or if it needs none.
func TestPutCount(t *testing.T) {
	pages := []int{9, 2, 63, 30, 4, 5, 6, 7}
	for size := range 1300 {
		for count := range pages {
			if count == 0 || count != needs(size) {
				checkPutNone(t, text(size), pages[:count]...)
			}
		}
	}
	for _, size := range []int{65536, 65536 + 41, 65536 + 201, 1<<20 + 200} {
		value := strings.Repeat("x", size)
		checkPutNone(t, value)
		checkPutNone(t, value, 2)
		checkPutNone(t, value, 2, 3)
	}
	checkPutNone(t, text(300), slices.Repeat([]int{2, 3}, 1<<15)...)
}

// P1101, Get: asked with another size, a value is read as far as that, if it needs as many pages and only zero bytes follow.
func TestGetSizes(t *testing.T) {
	for _, stored := range []int{41, 42, 100, 199, 200, 201, 202, 300, 399, 400} {
		for _, zeros := range []int{0, 1, 5, 60, 120, stored} {
			value := text(stored)[:max(0, stored-zeros)]
			long := value + strings.Repeat("\x00", 500)
			l := chained(long[:stored])
			for size := -10; size < 500; size++ {
				if needs(size) == len(l) && size >= len(value) {
					checkGet(t, size, l, long[:size])
				} else {
					checkGetNone(t, size, l...)
				}
			}
			for _, size := range wide() {
				if needs(size) != len(l) {
					checkGetNone(t, size, l...)
				}
			}
		}
	}
}

// P1101, Get: false if there are not as many pages as the value needs, or if it needs none.
func TestGetCount(t *testing.T) {
	for _, value := range []string{text(41), text(400), strings.Repeat("\x00", 400)} {
		for _, next := range [][]int{nil, {0}, {9, 0}, {9, 8, 0}, {9, 0, 0}, {0, 0}, {9, 8, 7, 0}, {0, 0, 0, 0}, {9, 9, 9}} {
			l := chain(value, next...)
			for size := -3; size < 900; size++ {
				if needs(size) == 0 || needs(size) != len(l) {
					checkGetNone(t, size, l...)
				}
			}
			for _, size := range wide() {
				if needs(size) == 0 {
					checkGetNone(t, size, l...)
				}
			}
		}
	}
	checkGetNone(t, 300, slices.Repeat(chain(text(300), 2), 1<<16)...)
}

// P1101, Get: Next is 0 for the last page alone; what else it is for the others, nobody asks.
func TestGetNext(t *testing.T) {
	one, two := text(150), text(333)
	for _, n := range wide() {
		if n == 0 {
			continue
		}
		checkGet(t, 333, chain(two, n, 0), two)
		checkGetNone(t, 333, chain(two, 0, n)...)
		checkGetNone(t, 333, chain(two, n, n)...)
		checkGetNone(t, 333, chain(two, 5, n)...)
		checkGetNone(t, 150, chain(one, n)...)
	}
	checkGetNone(t, 333, chain(two, 0, 0)...)
	checkGet(t, 150, chain(one, 0), one)
}

// P1101, Get: Depth is not checked, in no page.
func TestGetDepth(t *testing.T) {
	for _, a := range wide() {
		one := chain(text(41), 0)
		one[0].Depth = a
		checkGet(t, 41, one, text(41))
		for _, b := range wide() {
			two := chain(text(201), 7, 0)
			two[0].Depth, two[1].Depth = a, b
			checkGet(t, 201, two, text(201))
		}
	}
}

// P1101, Get: false if one of the pages is of another kind.
func TestGetKinds(t *testing.T) {
	for _, size := range []int{41, 200, 201, 400} {
		for _, value := range []string{text(size), strings.Repeat("\x00", size)} {
			for at := range needs(size) {
				for _, kind := range wide() {
					l := chained(value)
					l[at].Kind = kind
					if kind == 5 {
						checkGet(t, size, l, value)
					} else {
						checkGetNone(t, size, l...)
					}
				}
			}
			checkGetNone(t, size, make([]api.Page, needs(size))...)
		}
	}
}

// P1101, Get: false if the Body of one of the pages does not have Room bytes.
func TestGetLength(t *testing.T) {
	for _, size := range []int{41, 123, 200, 201, 300, 400} {
		for _, value := range []string{text(size), strings.Repeat("\x00", size)} {
			for at := range needs(size) {
				l := chained(value)
				whole := l[at].Body
				long := whole + strings.Repeat("\x00", 300)
				for n := range long {
					if n != 240 {
						l[at].Body = long[:n]
						checkGetNone(t, size, l...)
					}
				}
				for _, b := range []string{whole + whole, whole + "x", "\x00" + whole, whole + "\x00\x00"} {
					l[at].Body = b
					checkGetNone(t, size, l...)
				}
			}
		}
	}
}

// P1101, Get: any one byte turned to any other: it is of the value, or it stands behind that and must be 0.
func TestGetEachByte(t *testing.T) {
	for _, size := range []int{41, 150, 200, 201, 333, 400} {
		for at := range 240 * needs(size) {
			if t.Failed() { // one fault is to be told, not thousands
				return
			}
			for c := range 256 {
				l := chained(text(size))
				b := []byte(l[at/240].Body)
				b[at%240] = byte(c)
				l[at/240].Body = string(b)
				of := at/240*200 + at%240
				switch {
				case at%240 < 200 && of < size:
					checkGet(t, size, l, text(size)[:of]+string(b[at%240:at%240+1])+text(size)[of+1:])
				case c == 0:
					checkGet(t, size, l, text(size))
				default:
					checkGetNone(t, size, l...)
				}
			}
		}
	}
}

// P1101, Get: the order of the pages is that of the value, and one page may stand twice, as pages here have no numbers.
func TestGetOrder(t *testing.T) {
	a, b := strings.Repeat("a", 200), strings.Repeat("b", 200)
	first := api.Page{Kind: 5, Next: 3, Body: body(a)}
	last := api.Page{Kind: 5, Body: body(b)}
	checkGet(t, 400, []api.Page{first, last}, a+b)
	checkGetNone(t, 400, last, first)
	checkGetNone(t, 400, first, first)
	last.Body = first.Body
	checkGet(t, 400, []api.Page{first, last}, a+a)
	checkGetNone(t, 399, first, last)
}

// P1101: long runs of values, put in pages and read from them; what is read with the pages of another value is made of both.
func TestRuns(t *testing.T) {
	next := numbers(11)
	for range 20000 {
		size := 41 + next(360)
		values := sorts(size)
		value := values[next(len(values))]
		a := 2 + next(62)
		b := 2 + (a-2+1+next(61))%62 // another one
		pages := []int{a, b}[:needs(size)]
		l, ok := Put(value, pages...)
		if !ok {
			t.Fatalf("Put of %d bytes in %v is refused", size, pages)
		}
		checkGet(t, size, l, value)
		if len(l) == 2 {
			other, _ := Put(text(400), b, a)
			checkGet(t, size, []api.Page{other[0], l[1]}, text(400)[:200]+value[200:])
		}
	}
}

// DOC.md, rule 2: the functions do not modify their lists, nor what lies behind them.
func TestKeeps(t *testing.T) {
	pages := []int{5, 3, 8, 9}
	Put(text(300), pages[:2]...)
	Put(text(100), pages[:1]...)
	Put(text(300), pages...)
	if !slices.Equal(pages, []int{5, 3, 8, 9}) {
		t.Errorf("the pages became %v", pages)
	}
	l := chain(text(700), 5, 0, 8, 0)
	before := slices.Clone(l)
	Get(400, l[:2]...)
	Get(399, l[:2]...)
	Get(200, l[1:2]...)
	Get(400, l...)
	if !slices.Equal(l, before) {
		t.Errorf("the list became %s", show(l))
	}
}

// overlap reports whether two texts share memory.
func overlap(a, b string) bool {
	x, y := uintptr(unsafe.Pointer(unsafe.StringData(a))), uintptr(unsafe.Pointer(unsafe.StringData(b)))
	return len(a) > 0 && len(b) > 0 && x < y+uintptr(len(b)) && y < x+uintptr(len(a))
}

// DOC.md, rule 2: results share no memory with arguments or with later results.
func TestNewMemory(t *testing.T) {
	for _, size := range []int{41, 200, 201, 400} {
		value, pages := text(size), []int{5, 3}[:needs(size)]
		l, _ := Put(value, pages...)
		again, _ := Put(value, pages...)
		one, _ := Get(size, l...)
		two, _ := Get(size, l...)
		results := []string{one, two}
		for _, p := range slices.Concat(l, again) {
			results = append(results, p.Body)
		}
		for i, s := range results {
			for _, o := range append([]string{value}, results[:i]...) {
				if overlap(s, o) {
					t.Errorf("%d bytes: result %d shares memory", size, i)
				}
			}
		}
		clear(pages)
		clear(again)
		_ = append(again, api.Page{Kind: 5})
		if !slices.Equal(l, chain(value, []int{3, 0}[2-needs(size):]...)) {
			t.Errorf("%d bytes: the pages became %s", size, show(l))
		}
	}
}

// The numbers of the limits, as the other tests have them.
func TestLimits(t *testing.T) {
	got := []int{api.Inline, api.BlobRoom, api.MaxValue, api.MaxPages, api.Room, api.Blob}
	if want := []int{40, 200, 400, 64, 240, 5}; !slices.Equal(got, want) {
		t.Errorf("the limits are %v, want %v", got, want)
	}
}

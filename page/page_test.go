package page

import (
	"fmt"
	"math"
	"strings"
	"testing"

	"honeycomb/api"
)

// body is a body whose bytes all differ from their neighbours, so that one that moved is seen.
func body() string {
	b := make([]byte, api.Room)
	for i := range b {
		b[i] = byte(i*7 + 1)
	}
	return string(b)
}

func bodies() []string {
	return []string{
		body(),
		strings.Repeat("\x00", api.Room),
		strings.Repeat("\xff", api.Room),
		strings.Repeat("é", api.Room/2),
		"PG" + strings.Repeat("\x00", api.Room-2),
		strings.Repeat("\x00", api.Room-1) + "x",
	}
}

// expected is what Put is to return, byte by byte.
func expected(p api.Page) string {
	b := make([]byte, 256)
	b[0], b[1] = 'P', 'G'
	b[2], b[3] = byte(p.Kind), byte(p.Depth)
	b[4], b[5] = byte(p.Next/256), byte(p.Next%256)
	copy(b[16:], p.Body)
	return string(b)
}

func show(p api.Page) string {
	return fmt.Sprintf("{%d %d %d, %d bytes %.30q}", p.Kind, p.Depth, p.Next, len(p.Body), p.Body)
}

func checkGet(t *testing.T, what, b string, want api.Page, wantOk bool) {
	t.Helper()
	if got, ok := Get(b); got != want || ok != wantOk {
		t.Errorf("%s: Get = %s, %v, want %s, %v", what, show(got), ok, show(want), wantOk)
	}
}

func checkPut(t *testing.T, what string, p api.Page, want string, wantOk bool) {
	t.Helper()
	if got, ok := Put(p); got != want || ok != wantOk {
		t.Errorf("%s: Put = %d bytes %.30q, %v, want %d bytes %.30q, %v", what, len(got), got, ok, len(want), want, wantOk)
	}
}

// P501, Put and Get: every page that may be, its bytes, and back.
func TestPutGetAll(t *testing.T) {
	for _, body := range bodies() {
		for kind := 0; kind <= 5; kind++ {
			for depth := 0; depth <= 5; depth++ {
				for next := 0; next <= 63; next++ {
					p := api.Page{Kind: kind, Depth: depth, Next: next, Body: body}
					checkPut(t, "a page", p, expected(p), true)
					checkGet(t, "its bytes", expected(p), p, true)
				}
			}
		}
	}
}

// P501, Put: the bytes as they stand in the document.
func TestPutBytes(t *testing.T) {
	p := api.Page{Kind: api.Overflow, Depth: 2, Next: 33, Body: body()}
	checkPut(t, "overflow", p, "PG\x04\x02\x00\x21\x00\x00\x00\x00\x00\x00\x00\x00\x00\x00"+body(), true)
	if b, _ := Put(p); len(b) != api.PageSize {
		t.Errorf("Put returns %d bytes, want %d", len(b), api.PageSize)
	}
}

// tooFar are numbers outside 0 to top, among them some whose lowest bytes are in it.
func tooFar(top int) []int {
	return []int{-1, -2, top + 1, top + 2, 255, 256, 257, 256 + top, -256, -255, 65535, 65536, 65537, 65536 + top, -65536, -65535, 1 << 31, 1 << 32, 1<<32 + top, math.MaxInt, math.MinInt, math.MinInt + top}
}

// P501, Put: false if a number is outside its limits, whichever the others are.
func TestPutNumbers(t *testing.T) {
	for _, p := range []api.Page{
		{Body: body()},
		{Kind: api.Blob, Depth: api.MaxDepth, Next: api.MaxPages - 1, Body: body()},
		{Kind: api.Bucket, Depth: 1, Next: 7, Body: strings.Repeat("\x00", api.Room)},
	} {
		checkPut(t, "may be", p, expected(p), true)
		for _, n := range tooFar(5) {
			q := p
			q.Kind = n
			checkPut(t, "Kind", q, "", false)
			q = p
			q.Depth = n
			checkPut(t, "Depth", q, "", false)
		}
		for _, n := range tooFar(63) {
			q := p
			q.Next = n
			checkPut(t, "Next", q, "", false)
		}
	}
}

// P501, Put: false if Body does not have Room bytes.
func TestPutBody(t *testing.T) {
	checkPut(t, "no page at all", api.Page{}, "", false)
	for n := range 2*api.PageSize + 1 {
		if n != api.Room {
			checkPut(t, "other length", api.Page{Kind: api.Bucket, Body: strings.Repeat("x", n)}, "", false)
		}
	}
	checkPut(t, "Room runes of two bytes", api.Page{Body: strings.Repeat("é", api.Room)}, "", false)
}

// P501, Get: false for every length but PageSize.
func TestGetLength(t *testing.T) {
	b := expected(api.Page{Kind: api.Map, Depth: 1, Next: 2, Body: body()})
	for n := range b {
		checkGet(t, "too short", b[:n], api.Page{}, false)
		checkGet(t, "zero bytes, too few", strings.Repeat("\x00", n), api.Page{}, false)
	}
	for n := 1; n <= api.PageSize; n++ {
		checkGet(t, "too long", b+strings.Repeat("\x00", n), api.Page{}, false)
		checkGet(t, "zero bytes, too many", strings.Repeat("\x00", api.PageSize+n), api.Page{}, false)
	}
	checkGet(t, "without its first byte", b[1:]+"x", api.Page{}, false)
}

// P501, Get: any one byte of a page turned to any other: a page again only where Put has that very string.
func TestGetEachByte(t *testing.T) {
	for _, p := range []api.Page{
		{Kind: api.Bucket, Depth: 3, Next: 40, Body: body()},
		{Body: strings.Repeat("\x00", api.Room)},
	} {
		good := expected(p)
		for at := range good {
			for c := range 256 {
				b := []byte(good)
				b[at] = byte(c)
				want, ok := turned(p, at, c)
				if c == int(good[at]) {
					want, ok = p, true
				}
				checkGet(t, "turned", string(b), want, ok)
			}
		}
	}
}

// turned is p as it is when the byte at that place of its bytes is c, or false if that is no page.
func turned(p api.Page, at, c int) (api.Page, bool) {
	switch {
	case at == 2 && c <= 5:
		p.Kind = c
	case at == 3 && c <= 5:
		p.Depth = c
	case at == 5 && c <= 63:
		p.Next = c
	case at >= 16:
		p.Body = p.Body[:at-16] + string([]byte{byte(c)}) + p.Body[at-15:]
	default:
		return api.Page{}, false
	}
	return p, true
}

// P501, Get: PageSize zero bytes are an empty page of kind Free, though Put has other bytes for it.
func TestGetZeros(t *testing.T) {
	zeros := strings.Repeat("\x00", 256)
	free := api.Page{Body: strings.Repeat("\x00", 240)}
	checkGet(t, "zero bytes", zeros, free, true)
	checkPut(t, "an empty free page", free, "PG"+zeros[2:], true)
	checkGet(t, "an empty free page", "PG"+zeros[2:], free, true)
	for at := range zeros { // one other byte, and it is none
		checkGet(t, "zero bytes but one", zeros[:at]+"\x01"+zeros[at+1:], api.Page{}, false)
	}
	for _, begin := range []string{"P", "\x00G", "pg", "GP", "PH"} {
		checkGet(t, "begins "+begin, begin+zeros[len(begin):], api.Page{}, false)
	}
	checkGet(t, "without the mark", "\x00\x00"+expected(api.Page{Kind: api.Dir, Body: body()})[2:], api.Page{}, false)
}

// P501, Empty: this Kind and Depth, Next 0, Room zero bytes; kind and depth are not checked.
func TestEmpty(t *testing.T) {
	numbers := append(tooFar(5), 0, 1, 2, 3, 4, 5)
	for _, kind := range numbers {
		for _, depth := range numbers {
			want := api.Page{Kind: kind, Depth: depth, Body: strings.Repeat("\x00", 240)}
			if got := Empty(kind, depth); got != want {
				t.Errorf("Empty(%d, %d) = %s", kind, depth, show(got))
			}
		}
	}
	p := Empty(api.Dir, 2)
	checkPut(t, "Empty", p, expected(p), true)
}

// P501, Name: six names, and none for any other number.
func TestName(t *testing.T) {
	for kind, want := range []string{"free", "dir", "map", "bucket", "overflow", "blob"} {
		if got := Name(kind); got != want {
			t.Errorf("Name(%d) = %q, want %q", kind, got, want)
		}
	}
	if got := Name(api.Blob); got != "blob" {
		t.Errorf("Name(Blob) = %q", got)
	}
	for _, kind := range tooFar(5) {
		if got := Name(kind); got != "" {
			t.Errorf("Name(%d) = %q, want none", kind, got)
		}
	}
}

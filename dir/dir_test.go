package dir

import (
	"fmt"
	"math"
	"math/bits"
	"slices"
	"strings"
	"testing"

	"honeycomb/api"
)

// body is the body with these entries, as they follow one another, with no regard to which may be.
func body(l ...int) string {
	b := make([]byte, 240)
	for i, n := range l {
		b[2*i] = byte(n / 256)
		b[2*i+1] = byte(n % 256)
	}
	return string(b)
}

// dirOf is a directory with these entries whose Next is not that of a new one.
func dirOf(l ...int) api.Page {
	return api.Page{Kind: 1, Depth: bits.Len(uint(len(l))) - 1, Next: 41, Body: body(l...)}
}

// fresh are entries of which no two are alike, in no order of their pages, the least and the greatest page among them.
func fresh(depth int) []int {
	l := []int{2, 63, 3, 62, 32, 33, 31, 16, 8, 61, 4, 60, 5, 17, 30, 34, 59, 9, 58, 6, 24, 7, 48, 49, 10, 57, 40, 11, 12, 56, 13, 47}
	return l[:[]int{1, 2, 4, 8, 16, 32}[depth]]
}

// numbers is a row of numbers that look like chance and are always the same.
func numbers(seed uint32) func(below int) int {
	return func(below int) int {
		seed = seed*1664525 + 1013904223
		return int(seed>>8) % below
	}
}

// samples are the entries of directories of each Depth: all alike, all different, and some alike.
func samples() [][]int {
	var l [][]int
	for depth := range 6 {
		all := fresh(depth)
		for _, n := range []int{2, 3, 7, 32, 62, 63} {
			l = append(l, slices.Repeat([]int{n}, len(all)))
		}
		for part := 1; part <= len(all); part *= 2 {
			l = append(l, slices.Repeat(all[:part], len(all)/part))
		}
		next := numbers(uint32(depth))
		for range 20 {
			some := make([]int, len(all))
			for i := range some {
				some[i] = 2 + next(62)
			}
			l = append(l, some)
		}
	}
	return l
}

// wide are numbers of all sorts, among them some whose lowest bytes are a page.
func wide() []int {
	return []int{0, 1, 2, 5, 6, 7, 8, 31, 32, 33, 62, 63, 64, 65, 128, 255, 256, 258, 256 + 63, 512, 65536, 65538, 1 << 31, 1<<31 + 2, 1 << 32, 1<<32 + 2, math.MaxInt, -1, -2, -5, -63, -256, -254, -65536 + 2, math.MinInt, math.MinInt + 2}
}

func show(p api.Page) string {
	return fmt.Sprintf("{%d %d %d, %d bytes %.70q}", p.Kind, p.Depth, p.Next, len(p.Body), p.Body)
}

func checkNew(t *testing.T, first int, want api.Page, wantOk bool) {
	t.Helper()
	if got, ok := New(first); got != want || ok != wantOk {
		t.Errorf("New(%d) = %s, %v, want %s, %v", first, show(got), ok, show(want), wantOk)
	}
}

func checkAt(t *testing.T, p api.Page, index, want int, wantOk bool) {
	t.Helper()
	if got, ok := At(p, index); got != want || ok != wantOk {
		t.Errorf("At of %s, %d = %d, %v, want %d, %v", show(p), index, got, ok, want, wantOk)
	}
}

func checkDepth(t *testing.T, p api.Page, want int) {
	t.Helper()
	if got := Depth(p); got != want {
		t.Errorf("Depth of %s = %d, want %d", show(p), got, want)
	}
}

func checkAll(t *testing.T, p api.Page, want ...int) {
	t.Helper()
	if got := All(p); !slices.Equal(got, want) {
		t.Errorf("All of %s = %v, want %v", show(p), got, want)
	}
}

func checkDouble(t *testing.T, p, want api.Page, wantErr api.Errno) {
	t.Helper()
	if got, err := Double(p); got != want || err != wantErr {
		t.Errorf("Double of %s = %s, %d, want %s, %d", show(p), show(got), err, show(want), wantErr)
	}
}

func checkHalve(t *testing.T, p, want api.Page, wantErr api.Errno) {
	t.Helper()
	if got, err := Halve(p); got != want || err != wantErr {
		t.Errorf("Halve of %s = %s, %d, want %s, %d", show(p), show(got), err, show(want), wantErr)
	}
}

func checkSet(t *testing.T, p api.Page, low, depth, n int, want api.Page, wantErr api.Errno) {
	t.Helper()
	if got, err := Set(p, low, depth, n); got != want || err != wantErr {
		t.Errorf("Set(%s, %d, %d, %d) = %s, %d, want %s, %d", show(p), low, depth, n, show(got), err, show(want), wantErr)
	}
}

// checkDir holds what is told of a directory against its entries.
func checkDir(t *testing.T, p api.Page, l ...int) {
	t.Helper()
	checkDepth(t, p, map[int]int{1: 0, 2: 1, 4: 2, 8: 3, 16: 4, 32: 5}[len(l)])
	checkAll(t, p, l...)
	for i, n := range l {
		checkAt(t, p, i, n, true)
	}
	for i := len(l); i <= 260; i++ {
		checkAt(t, p, i, 0, false)
	}
	for _, i := range wide() {
		if i < 0 || i >= len(l) {
			checkAt(t, p, i, 0, false)
		}
	}
}

// checkNone is for a page that is not a directory, whatever is asked of it.
func checkNone(t *testing.T, p api.Page) {
	t.Helper()
	checkForm(t, p)
	for _, i := range []int{-1, 1, 2, 31, 32, 63, math.MaxInt, math.MinInt} {
		checkAt(t, p, i, 0, false)
		checkSet(t, p, i, 0, 2, api.Page{}, api.ErrForm)
		checkSet(t, p, 0, i, 2, api.Page{}, api.ErrForm)
		checkSet(t, p, 0, 0, i, api.Page{}, api.ErrForm)
	}
}

// checkForm is for a page that is not a directory, each call once.
func checkForm(t *testing.T, p api.Page) {
	t.Helper()
	checkDepth(t, p, -1)
	checkAll(t, p)
	checkAt(t, p, 0, 0, false)
	checkDouble(t, p, api.Page{}, api.ErrForm)
	checkHalve(t, p, api.Page{}, api.ErrForm)
	checkSet(t, p, 0, 0, 2, api.Page{}, api.ErrForm)
}

// The chapter's examples.
func TestExamples(t *testing.T) {
	p, ok := New(2)
	if !ok {
		t.Error("New(2) is none")
	}
	checkHalve(t, p, api.Page{}, api.ErrState)
	p, _ = Double(p)
	checkAll(t, p, 2, 2)
}

// P1001, New: each page that may be an entry, and every other number.
func TestNew(t *testing.T) {
	for first := -300; first < 700; first++ {
		if first < 2 || first > 63 {
			checkNew(t, first, api.Page{}, false)
			continue
		}
		want := api.Page{Kind: 1, Body: "\x00" + string([]byte{byte(first)}) + strings.Repeat("\x00", 238)}
		checkNew(t, first, want, true)
		checkDir(t, want, first)
	}
	for _, first := range wide() {
		if first < 2 || first > 63 {
			checkNew(t, first, api.Page{}, false)
		}
	}
}

// P1001: what is told of a directory, of each Depth.
func TestEntries(t *testing.T) {
	for _, l := range samples() {
		checkDir(t, dirOf(l...), l...)
	}
	p := api.Page{Kind: 1, Depth: 2, Body: "\x00\x05\x00\x02\x00\x3f\x00\x09" + strings.Repeat("\x00", 232)}
	checkDir(t, p, 5, 2, 63, 9)
}

// P1001, Double: the entries stand once more behind themselves; ErrFull at MaxDepth.
func TestDouble(t *testing.T) {
	for _, l := range samples() {
		if len(l) == 32 {
			checkDouble(t, dirOf(l...), api.Page{}, api.ErrFull)
			continue
		}
		checkDouble(t, dirOf(l...), dirOf(slices.Concat(l, l)...), api.OK)
	}
	checkDouble(t, dirOf(4, 9), dirOf(4, 9, 4, 9), api.OK)
}

// P1001, Halve: undoes Double; ErrState where no Double ends.
func TestHalve(t *testing.T) {
	for _, l := range samples() {
		if len(l) < 32 {
			checkHalve(t, dirOf(slices.Concat(l, l)...), dirOf(l...), api.OK)
		}
		half := len(l) / 2
		if len(l) == 1 || fmt.Sprint(l[:half]) != fmt.Sprint(l[half:]) {
			checkHalve(t, dirOf(l...), api.Page{}, api.ErrState)
		}
	}
	checkHalve(t, dirOf(4, 9, 4, 9), dirOf(4, 9), api.OK)
	checkHalve(t, dirOf(4, 4, 9, 9), api.Page{}, api.ErrState)
	checkHalve(t, dirOf(4, 9, 9, 4), api.Page{}, api.ErrState)
	for first := 2; first < 64; first++ {
		checkHalve(t, dirOf(first), api.Page{}, api.ErrState)
	}
}

// P1001, Halve: ErrState if the halves differ in one entry, wherever it is.
func TestHalveDiffers(t *testing.T) {
	for depth := 1; depth <= 5; depth++ {
		half := fresh(depth - 1)
		for _, l := range [][]int{slices.Concat(half, half), slices.Repeat([]int{7}, 2*len(half))} {
			for i, old := range l {
				for _, n := range []int{2, 3, 6, 7, 8, 63} {
					now := slices.Clone(l)
					now[i] = n
					if n != old {
						checkHalve(t, dirOf(now...), api.Page{}, api.ErrState)
					}
				}
			}
		}
	}
}

// ending are the entries with n at each index whose lowest depth bits are low, found by the digits of the indices.
func ending(l []int, low, depth, n int) []int {
	now := slices.Clone(l)
	for i := range now {
		if digits(i, depth) == digits(low, depth) {
			now[i] = n
		}
	}
	return now
}

// digits are the lowest ones of a number that is written with noughts and ones.
func digits(n, count int) string {
	s := fmt.Sprintf("%032b", n)
	return s[len(s)-count:]
}

// P1001, Set: all bits of each depth, in directories of each Depth. Next and the other entries are as they were.
func TestSet(t *testing.T) {
	for _, l := range samples() {
		p := dirOf(l...)
		for depth := 0; depth <= p.Depth; depth++ {
			for low := range int(math.Pow(2, float64(depth))) {
				for _, n := range []int{2, 3, 17, 63} {
					checkSet(t, p, low, depth, n, dirOf(ending(l, low, depth, n)...), api.OK)
				}
			}
		}
	}
	checkSet(t, dirOf(4, 5, 6, 7, 8, 9, 10, 11), 1, 2, 20, dirOf(4, 20, 6, 7, 8, 20, 10, 11), api.OK)
	checkSet(t, dirOf(4, 5, 6, 7), 2, 2, 20, dirOf(4, 5, 20, 7), api.OK)
	checkSet(t, dirOf(4, 5, 6, 7), 0, 0, 20, dirOf(20, 20, 20, 20), api.OK)
}

// P1001, Set: each n that may be an entry; ErrArg for every other number.
func TestSetPages(t *testing.T) {
	p := dirOf(4, 5, 6, 7)
	for n := -300; n < 700; n++ {
		if n < 2 || n > 63 {
			checkSet(t, p, 1, 1, n, api.Page{}, api.ErrArg)
		} else {
			checkSet(t, p, 1, 1, n, dirOf(4, n, 6, n), api.OK)
		}
	}
	for _, n := range wide() {
		if n < 2 || n > 63 {
			checkSet(t, p, 1, 1, n, api.Page{}, api.ErrArg)
		}
	}
}

// P1001, Set: ErrArg for a depth that is not 0 to Depth, and for bits that are not 0 to 2^depth - 1.
func TestSetWrong(t *testing.T) {
	around := wide()
	for n := -70; n <= 70; n++ {
		around = append(around, n)
	}
	for depth := range 6 {
		l := fresh(depth)
		p := dirOf(l...)
		for _, d := range around {
			for _, low := range around {
				if d < 0 || d > depth || low < 0 || low >= len(fresh(d)) {
					checkSet(t, p, low, d, 9, api.Page{}, api.ErrArg)
				} else {
					checkSet(t, p, low, d, 9, dirOf(ending(l, low, d, 9)...), api.OK)
				}
			}
		}
	}
}

// P1001: Next may have any value and is not changed.
func TestNext(t *testing.T) {
	page := func(next int, l ...int) api.Page {
		p := dirOf(l...)
		p.Next = next
		return p
	}
	for _, next := range wide() {
		p := page(next, 4, 9, 4, 9)
		checkDir(t, p, 4, 9, 4, 9)
		checkDouble(t, p, page(next, 4, 9, 4, 9, 4, 9, 4, 9), api.OK)
		checkHalve(t, p, page(next, 4, 9), api.OK)
		checkSet(t, p, 3, 2, 8, page(next, 4, 9, 4, 8), api.OK)
		checkSet(t, p, 4, 2, 8, api.Page{}, api.ErrArg)
		checkHalve(t, page(next, 4, 9), api.Page{}, api.ErrState)
		checkDouble(t, page(next, fresh(5)...), api.Page{}, api.ErrFull)
	}
}

// P1001: long runs of calls, held against entries by the digits that lead to them.
func TestRuns(t *testing.T) {
	for seed := range uint32(60) {
		next := numbers(seed)
		l := []int{2 + next(62)}
		p := dirOf(l...)
		for range 300 {
			var q api.Page
			var err api.Errno
			now := l
			switch next(4) {
			case 0:
				q, err = Double(p)
				now = slices.Concat(l, l)
			case 1:
				q, err = Halve(p)
				now = l[:(len(l)+1)/2]
			default:
				depth := next(p.Depth + 1)
				low, n := next(len(fresh(depth))), 2+next(2)
				q, err = Set(p, low, depth, n)
				now = ending(l, low, depth, n)
			}
			if err == api.OK {
				p, l = q, now
			}
			if p != dirOf(l...) {
				t.Fatalf("the page is %s, want %v", show(p), l)
			}
		}
		checkDir(t, p, l...)
	}
}

// P1001: a page of another kind is not a directory, whatever its Body.
func TestKinds(t *testing.T) {
	checkNone(t, api.Page{})
	for _, kind := range append(wide(), 2, 3, 4, 256+1, 65536+1, 1<<32+1, math.MinInt+1) {
		for depth := range 6 {
			if kind != 1 {
				checkNone(t, api.Page{Kind: kind, Depth: depth, Body: body(fresh(depth)...)})
			}
		}
	}
}

// P1001: there are as many entries as Depth says, no less and no more, and Depth is 0 to MaxDepth.
func TestDepths(t *testing.T) {
	depths := append(wide(), 16, 64, 65, 256+1, 1<<32+1, math.MinInt+1)
	for n := -70; n <= 70; n++ {
		depths = append(depths, n)
	}
	for entries := range 121 {
		l := slices.Repeat([]int{2, 63, 9}, 40)[:entries]
		for _, depth := range depths {
			p := api.Page{Kind: 1, Depth: depth, Next: 7, Body: body(l...)}
			if depth >= 0 && depth <= 5 && entries == len(fresh(depth)) {
				checkDir(t, p, l...)
			} else {
				checkNone(t, p)
			}
		}
	}
}

// P1001: any one byte turned to any other: a directory again only where it is the lower byte of an entry that may be.
func TestEachByte(t *testing.T) {
	for depth := range 6 {
		l := fresh(depth)
		for at := range 240 {
			if t.Failed() { // one fault is to be told, not thousands
				return
			}
			for c := range 256 {
				b := []byte(body(l...))
				b[at] = byte(c)
				p := api.Page{Kind: 1, Depth: depth, Next: 7, Body: string(b)}
				switch entry := at / 2; {
				case at%2 == 1 && entry < len(l) && c >= 2 && c <= 63:
					now := slices.Clone(l)
					now[entry] = c
					checkAll(t, p, now...)
					checkDepth(t, p, depth)
				case (at%2 == 0 || entry >= len(l)) && c == 0:
					checkAll(t, p, l...)
				default:
					checkForm(t, p)
				}
			}
		}
	}
}

// P1001: an entry is two bytes, so that one whose lower byte may be a page is none if its higher byte is not 0; nor is one with its bytes the other way round.
func TestBytes(t *testing.T) {
	for depth := range 6 {
		l := fresh(depth)
		for i, old := range l {
			for _, n := range []int{0, 1, 64, 65, 255, 256, 256 + old, 512 + old, 0x8000 + old, 0xff00 + old, 256 * old, 0xffff} {
				now := slices.Clone(l)
				now[i] = n
				checkNone(t, api.Page{Kind: 1, Depth: depth, Body: body(now...)})
			}
		}
	}
}

// P1001: a Body of another length than Room is that of no page, and so of no directory.
func TestLength(t *testing.T) {
	for depth := range 6 {
		long := body(fresh(depth)...) + strings.Repeat("\x00", 300)
		for n := range long {
			if n != 240 {
				checkNone(t, api.Page{Kind: 1, Depth: depth, Body: long[:n]})
			}
		}
		checkNone(t, api.Page{Kind: 1, Depth: depth, Body: long[:240] + long[:240]})
		checkNone(t, api.Page{Kind: 1, Depth: depth, Body: "\x00" + long[:239]})
	}
}

// P1001: ErrForm comes first: where the Depth is MaxDepth, where it is 0, and where the arguments may not be.
func TestFormFirst(t *testing.T) {
	bad := slices.Repeat([]int{9}, 32)
	bad[31] = 1
	for _, p := range []api.Page{dirOf(bad...), dirOf(64), dirOf(1), dirOf(0), dirOf(4, 1), dirOf(64, 4)} {
		checkNone(t, p)
		for _, n := range wide() {
			checkSet(t, p, n, n, n, api.Page{}, api.ErrForm)
		}
	}
}

// P1001, All: each list is memory of its own.
func TestAllNew(t *testing.T) {
	for depth := range 6 {
		l := fresh(depth)
		p := dirOf(l...)
		got, again := All(p), All(p)
		clear(got)
		_ = append(got[:0], 99)
		if !slices.Equal(again, l) {
			t.Errorf("another All is %v now, want %v", again, l)
		}
		checkDir(t, p, l...)
	}
}

// The numbers of the limits, as the other tests have them.
func TestLimits(t *testing.T) {
	got := []int{api.MaxDepth, api.MaxPages, api.Dir, api.Room}
	if want := []int{5, 64, 1, 240}; !slices.Equal(got, want) {
		t.Errorf("the limits are %v, want %v", got, want)
	}
}

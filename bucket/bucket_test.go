package bucket

import (
	"fmt"
	"hash/fnv"
	"maps"
	"math"
	"slices"
	"strings"
	"testing"
	"unsafe"

	"honeycomb/api"
)

// text is n bytes that all differ from their neighbours, so that one that moved is seen.
func text(n int) string {
	b := make([]byte, n)
	for i := range b {
		b[i] = byte(i*7 + 65)
	}
	return string(b)
}

func in(key, value string) api.Cell { return api.Cell{Key: key, Value: value} }

func out(key string, blob, size int) api.Cell { return api.Cell{Key: key, Blob: blob, Size: size} }

// mayBe is what a cell must be, said the other way round: all that may be wrong.
func mayBe(c api.Cell) bool {
	if len(c.Key) < 1 || len(c.Key) > 16 {
		return false
	}
	switch {
	case c.Blob == 0:
		return len(c.Value) < 41 && c.Size == 0
	case c.Blob < 2, c.Blob > 63, len(c.Value) > 0, c.Size < 41, c.Size > 400:
		return false
	}
	return true
}

// encoded is the body with these cells as they follow one another, with no regard to which may be.
func encoded(l ...api.Cell) string {
	s := string([]byte{byte(len(l))})
	for _, c := range l {
		s += string([]byte{byte(len(c.Key))}) + c.Key
		if c.Blob == 0 {
			s += string([]byte{0, 0, byte(len(c.Value))}) + c.Value
		} else {
			s += string([]byte{1, byte(c.Size / 256), byte(c.Size % 256), 0, byte(c.Blob)})
		}
	}
	if len(s) > 240 {
		return s
	}
	return s + strings.Repeat("\x00", 240-len(s))
}

// left is the bytes that cells leave in a body.
func left(l ...api.Cell) int {
	n := 239
	for _, c := range l {
		n -= 4 + len(c.Key) + len(c.Value)
		if c.Blob != 0 {
			n -= 2
		}
	}
	return n
}

// with is the cells, which are in ascending order, with c set among them, found by way of a map.
func with(l []api.Cell, c api.Cell) []api.Cell {
	m := map[string]api.Cell{}
	for _, o := range l {
		m[o.Key] = o
	}
	m[c.Key] = c
	return inOrder(m)
}

func inOrder(m map[string]api.Cell) []api.Cell {
	var l []api.Cell
	for _, key := range slices.Sorted(maps.Keys(m)) {
		l = append(l, m[key])
	}
	return l
}

// bucketOf is a page with these cells, in this order.
func bucketOf(l ...api.Cell) api.Page {
	return api.Page{Kind: api.Bucket, Depth: 3, Next: 9, Body: encoded(l...)}
}

func show(c api.Cell) string {
	return fmt.Sprintf("{%d bytes %.20q, %d bytes %.20q, blob %d, size %d}", len(c.Key), c.Key, len(c.Value), c.Value, c.Blob, c.Size)
}

func checkFind(t *testing.T, p api.Page, key string, want api.Cell, wantOk bool) {
	t.Helper()
	if got, ok := Find(p, key); got != want || ok != wantOk {
		t.Errorf("Find of %q = %s, %v, want %s, %v", key, show(got), ok, show(want), wantOk)
	}
}

// checkSet is for a Set that changes the cells of p to want.
func checkSet(t *testing.T, p api.Page, c api.Cell, want ...api.Cell) {
	t.Helper()
	page := p
	page.Body = encoded(want...)
	if got, err := Set(p, c); got != page || err != api.OK {
		t.Errorf("Set of %s = %v, %d, want %v", show(c), got, err, page)
	}
}

func checkSetError(t *testing.T, p api.Page, c api.Cell, want api.Errno) {
	t.Helper()
	if got, err := Set(p, c); got != (api.Page{}) || err != want {
		t.Errorf("Set of %s in %.40v = %v, %d, want error %d", show(c), p, got, err, want)
	}
}

// checkCut is for a Cut that changes the cells of p to want.
func checkCut(t *testing.T, p api.Page, key string, want ...api.Cell) {
	t.Helper()
	page := p
	page.Body = encoded(want...)
	if got, err := Cut(p, key); got != page || err != api.OK {
		t.Errorf("Cut of %q = %v, %d, want %v", key, got, err, page)
	}
}

func checkCutError(t *testing.T, p api.Page, key string, want api.Errno) {
	t.Helper()
	if got, err := Cut(p, key); got != (api.Page{}) || err != want {
		t.Errorf("Cut of %q in %.40v = %v, %d, want error %d", key, p, got, err, want)
	}
}

func checkCells(t *testing.T, p api.Page, want ...api.Cell) {
	t.Helper()
	if got := Cells(p); !slices.Equal(got, want) {
		t.Errorf("Cells = %v, want %v", got, want)
	}
}

func checkRoom(t *testing.T, p api.Page, want int) {
	t.Helper()
	if got := Room(p); got != want {
		t.Errorf("Room of %.40v = %d, want %d", p, got, want)
	}
}

// checkPage holds what is told of a page against its cells, which are in ascending order.
func checkPage(t *testing.T, p api.Page, l ...api.Cell) {
	t.Helper()
	checkCells(t, p, l...)
	checkRoom(t, p, left(l...))
	for _, c := range l {
		checkFind(t, p, c.Key, c, true)
	}
}

// checkNone is for a page that the functions don't accept, whatever they are asked of it.
func checkNone(t *testing.T, p api.Page) {
	t.Helper()
	for _, key := range []string{"", "a", "b", "\x00", text(16), text(17)} {
		checkFind(t, p, key, api.Cell{}, false)
		checkCutError(t, p, key, api.ErrForm)
	}
	for _, c := range []api.Cell{{}, in("a", ""), in("a", "2"), in("k", text(40)), in("k", text(41)), out("b", 2, 41), out("b", 1, 41)} {
		checkSetError(t, p, c, api.ErrForm)
	}
	checkCells(t, p)
	checkRoom(t, p, 0)
}

// few are cells of both kinds with keys that are near to one another, in ascending order.
func few() []api.Cell {
	return []api.Cell{in("\x00", "zero"), in("A", "1"), in(text(16), text(16)), out("a", 2, 41), in("a\x00", ""), in("aa", "\xff"), out("b", 63, 400), in("\x7f", "v"), in("\x80", "v"), in("é", "w"), in("\xff", "\x00")}
}

// filler are cells whose Sizes sum up to n, in ascending order of their keys; n is 5 or more.
func filler(n int) []api.Cell {
	var l []api.Cell
	for n > 0 {
		size := min(n, 45)
		if rest := n - size; 0 < rest && rest < 5 { // too few for one more
			size -= 5
		}
		l = append(l, in(string([]byte{byte(len(l) + 1)}), text(size-5)))
		n -= size
	}
	return l
}

// numbers is a row of numbers that look like chance and are always the same.
func numbers(seed uint32) func(below int) int {
	return func(below int) int {
		seed = seed*1664525 + 1013904223
		return int(seed>>8) % below
	}
}

// wide are numbers of all sorts.
func wide() []int {
	return []int{0, 1, 2, 5, 6, 9, 63, 64, 255, 256, 65535, 65536, math.MaxInt, -1, -2, -256, math.MinInt}
}

// The chapter's examples.
func TestExamples(t *testing.T) {
	checkRoom(t, api.Page{Kind: api.Bucket, Body: strings.Repeat("\x00", 240)}, 239)
	checkCutError(t, bucketOf(in("a", "1")), "b", api.ErrNone)
}

// P801: an empty page, of both kinds.
func TestEmpty(t *testing.T) {
	for _, kind := range []int{api.Bucket, api.Overflow} {
		p := api.Page{Kind: kind, Body: encoded()}
		checkPage(t, p)
		for _, key := range []string{"", "a", "\x00", text(16), text(17), text(1000)} {
			checkFind(t, p, key, api.Cell{}, false)
			checkCutError(t, p, key, api.ErrNone)
		}
		checkSet(t, p, in("a", "bc"), in("a", "bc"))
		checkSet(t, p, out("a", 3, 300), out("a", 3, 300))
		checkSet(t, p, in(text(16), text(40)), in(text(16), text(40)))
	}
}

// P801, Find: each cell of a page, and keys that are none of it, some of them near to one.
func TestFind(t *testing.T) {
	l := few()
	p := bucketOf(l...)
	checkPage(t, p, l...)
	for _, key := range []string{"", "\x00\x00", "B", "a ", "aaa", "ab", "ba", "b\x00", "c", text(15), text(17), "\x81", "É", "\xc3", "\xff\xff", strings.Repeat("a", 256), strings.Repeat("a", 257), text(1 << 20)} {
		checkFind(t, p, key, api.Cell{}, false)
	}
	for i := range l {
		rest := slices.Delete(slices.Clone(l), i, i+1)
		checkFind(t, bucketOf(rest...), l[i].Key, api.Cell{}, false)
	}
}

// P801, Find: a value, or its bytes, are not mistaken for a key.
func TestFindValue(t *testing.T) {
	p := bucketOf(in("k", "v\x01x\x00\x00\x00"), out("l", 33, 333))
	for _, key := range []string{"v", "x", "!", "\x01", "kv", "k\x00"} {
		checkFind(t, p, key, api.Cell{}, false)
		checkCutError(t, p, key, api.ErrNone)
	}
}

// P801, Set: a cell with a new Key, at each place among the others.
func TestSetNew(t *testing.T) {
	l := few()
	for i, c := range l {
		rest := slices.Delete(slices.Clone(l), i, i+1)
		checkSet(t, bucketOf(rest...), c, l...)
	}
	keys := []string{"\x00", "\x00\x00", "\x00\x01", "\x01", "A", "a", "a\x00", "aa", "ab", "b", "z", "\x7f", "\x80", "é", "\xff", "\xff\xff"}
	for i, a := range keys {
		for j, b := range keys {
			switch first, c := in(a, "v"), in(b, "w"); {
			case i < j:
				checkSet(t, bucketOf(first), c, first, c)
			case i > j:
				checkSet(t, bucketOf(first), c, c, first)
			default:
				checkSet(t, bucketOf(first), c, c)
			}
		}
	}
}

// P801, Set: each cell replaced by others with its Key, longer and shorter ones, of the same kind and of the other.
func TestSetReplaces(t *testing.T) {
	l := few()
	for i, c := range l {
		for _, now := range []api.Cell{c, in(c.Key, ""), in(c.Key, "x"), in(c.Key, text(40)), out(c.Key, 2, 41), out(c.Key, 63, 400)} {
			want := slices.Clone(l)
			want[i] = now
			checkSet(t, bucketOf(l...), now, want...)
		}
	}
}

// P801, Set: cells set in any order are in ascending order of their keys then.
func TestSetOrders(t *testing.T) {
	l := few()
	for step := 1; step < len(l); step++ { // their number is a prime, so each step comes to all
		p := api.Page{Kind: api.Overflow, Depth: 5, Next: 1, Body: encoded()}
		for i := range l {
			var err api.Errno
			if p, err = Set(p, l[i*step%len(l)]); err != api.OK {
				t.Fatalf("Set = %d", err)
			}
		}
		if p != (api.Page{Kind: api.Overflow, Depth: 5, Next: 1, Body: encoded(l...)}) {
			t.Errorf("step %d: the page is %v", step, p)
		}
		checkPage(t, p, l...)
	}
}

// wrong are cells that are not Right, with the key k where it is not the key that is wrong.
func wrong() []api.Cell {
	var l []api.Cell
	for _, key := range []string{"", "k", text(16), text(17), strings.Repeat("é", 9), text(256 + 1)} {
		for _, value := range []string{"", "v", text(40), text(41), text(400)} {
			for _, blob := range []int{math.MinInt, -1, 0, 1, 2, 63, 64, 256 + 2, math.MaxInt} {
				for _, size := range []int{math.MinInt, -1, 0, 1, 40, 41, 400, 401, 65536 + 41, math.MaxInt} {
					if c := (api.Cell{Key: key, Value: value, Blob: blob, Size: size}); !mayBe(c) {
						l = append(l, c)
					}
				}
			}
		}
	}
	return l
}

// P801, Set: ErrArg for a cell that is not Right, before ErrFull and after ErrForm.
func TestSetWrong(t *testing.T) {
	for _, c := range wrong() {
		checkSetError(t, bucketOf(), c, api.ErrArg)
		checkSetError(t, bucketOf(in("k", "v"), in("l", "")), c, api.ErrArg)
		checkSetError(t, bucketOf(filler(239)...), c, api.ErrArg)
		checkSetError(t, api.Page{}, c, api.ErrForm)
		checkSetError(t, api.Page{Kind: api.Blob, Body: encoded()}, c, api.ErrForm)
		checkSetError(t, api.Page{Kind: api.Bucket, Body: encoded() + "\x00"}, c, api.ErrForm)
	}
}

// P801, Set and Room: a new cell fits in just the bytes that are left.
func TestSetFull(t *testing.T) {
	for n := 5; n <= 239; n++ {
		l := filler(n)
		p := bucketOf(l...)
		checkPage(t, p, l...)
		for size := 5; size <= 60; size++ {
			c := in("~"+text(max(0, size-45)), text(min(size, 45)-5))
			checkFits(t, p, l, c, size <= 239-n)
		}
		for key := 1; key <= 16; key++ {
			checkFits(t, p, l, out(text(key), 63, 400), key+6 <= 239-n)
		}
	}
}

// checkFits is for a Set of c in p, the page with the cells of l, that fits or not.
func checkFits(t *testing.T, p api.Page, l []api.Cell, c api.Cell, fits bool) {
	t.Helper()
	if fits {
		checkSet(t, p, c, with(l, c)...)
	} else {
		checkSetError(t, p, c, api.ErrFull)
	}
}

// P801, Set: the cell that is replaced leaves its bytes to the one that replaces it.
func TestSetFullReplaces(t *testing.T) {
	for n := 180; n <= 239; n++ {
		l := filler(n)
		p := bucketOf(l...)
		for _, old := range l {
			room := 239 - n + 5 + len(old.Value)
			for v := range 41 {
				checkFits(t, p, l, in(old.Key, text(v)), 5+v <= room)
			}
			checkFits(t, p, l, out(old.Key, 2, 41), 7 <= room)
		}
	}
}

// P801, Set: as many cells as there can be.
func TestSetMany(t *testing.T) {
	p, l := bucketOf(), []api.Cell(nil)
	for i := range 47 {
		c := in(string([]byte{byte(i * 5)}), "")
		l = append(l, c)
		checkSet(t, p, c, l...)
		p, _ = Set(p, c)
		checkPage(t, p, l...)
	}
	checkRoom(t, p, 4)
	for i := range 256 {
		c := in(string([]byte{byte(i)}), "")
		checkFits(t, p, l, c, i%5 == 0 && i < 47*5)
	}
}

// P801, Cut: each cell of a page.
func TestCut(t *testing.T) {
	l := few()
	for i, c := range l {
		rest := slices.Delete(slices.Clone(l), i, i+1)
		checkCut(t, bucketOf(l...), c.Key, rest...)
		checkCut(t, bucketOf(c), c.Key)
		checkCutError(t, bucketOf(rest...), c.Key, api.ErrNone)
	}
	full := filler(239)
	for i, c := range full {
		checkCut(t, bucketOf(full...), c.Key, slices.Delete(slices.Clone(full), i, i+1)...)
	}
}

// P801, Cut: keys that are none of the page, also such that no cell has.
func TestCutNone(t *testing.T) {
	p := bucketOf(few()...)
	for _, key := range []string{"", "\x00\x00", "B", "aaa", "b\x00", text(15), text(17), "\xff\xff", text(1 << 20)} {
		checkCutError(t, p, key, api.ErrNone)
	}
}

// P801: a page is emptied and filled again.
func TestCutAll(t *testing.T) {
	l := few()
	p := bucketOf(l...)
	for i, c := range l {
		p, _ = Cut(p, c.Key)
		checkPage(t, p, l[i+1:]...)
	}
	if p != bucketOf() {
		t.Errorf("the emptied page is %v", p)
	}
	checkSet(t, p, l[0], l[0])
}

// P801: Kind, Depth and Next stay, and nothing hangs on Depth and Next.
func TestKeepsHead(t *testing.T) {
	l := few()
	for _, kind := range []int{api.Bucket, api.Overflow} {
		for _, depth := range wide() {
			for _, next := range wide() {
				p := api.Page{Kind: kind, Depth: depth, Next: next, Body: encoded(l...)}
				checkPage(t, p, l...)
				checkSet(t, p, in("a", "x"), with(l, in("a", "x"))...)
				checkSet(t, p, in("new", "x"), with(l, in("new", "x"))...)
				checkCut(t, p, l[0].Key, l[1:]...)
				checkSetError(t, p, in("", ""), api.ErrArg)
				checkCutError(t, p, "new", api.ErrNone)
			}
		}
	}
}

// P801: pages of all other kinds.
func TestOtherKinds(t *testing.T) {
	for _, kind := range append(wide(), api.Free, api.Dir, api.Map, api.Blob, 256+3, 256+4, 65536+3, -3, -4, 1<<31+3, 1<<32+3, 1<<32+4) {
		for _, l := range [][]api.Cell{nil, {in("a", "1")}, few(), filler(239)} {
			checkNone(t, api.Page{Kind: kind, Depth: 1, Next: 2, Body: encoded(l...)})
		}
	}
	checkNone(t, api.Page{})
}

// P801: pages whose Body has another length.
func TestOtherLengths(t *testing.T) {
	for _, l := range [][]api.Cell{nil, {in("a", "1")}, few(), filler(239)} {
		b := encoded(l...)
		for n := range b {
			checkNone(t, api.Page{Kind: api.Bucket, Body: b[:n]})
		}
		for n := 1; n <= 256; n++ {
			checkNone(t, api.Page{Kind: api.Overflow, Body: b + strings.Repeat("\x00", n)})
		}
	}
	for n := 241; n < 300; n++ {
		b := encoded(filler(n)...)
		checkNone(t, api.Page{Kind: api.Bucket, Body: b})
		checkNone(t, api.Page{Kind: api.Bucket, Body: b[:240]})
	}
}

// P801: pages whose Body no Put makes.
func TestOtherBodies(t *testing.T) {
	a, b := in("a", "1"), in("b", "2")
	var bodies []string
	for _, l := range [][]api.Cell{{b, a}, {a, a}, {a, b, b}, {a, in("a", "2")}, {b, a, in("c", "")}} {
		bodies = append(bodies, encoded(l...))
	}
	for _, c := range []api.Cell{in("", "v"), in(text(17), "v"), in("k", text(41)), out("k", 1, 41), out("k", 64, 41), out("k", 2, 40), out("k", 2, 401)} {
		bodies = append(bodies, encoded(c), encoded(a, c))
	}
	one := encoded(a)
	for at := 7; at < 240; at++ { // behind the cell
		bodies = append(bodies, one[:at]+"\x01"+one[at+1:])
	}
	for n := range 256 { // more cells, or fewer
		if n != 1 {
			bodies = append(bodies, string([]byte{byte(n)})+one[1:])
		}
	}
	for mark := 2; mark < 256; mark++ {
		bodies = append(bodies, one[:3]+string([]byte{byte(mark)})+one[4:])
	}
	bodies = append(bodies, strings.Repeat("\xff", 240), strings.Repeat("\x01", 240), "\x01"+strings.Repeat("\x00", 239))
	for _, body := range bodies {
		checkNone(t, api.Page{Kind: api.Bucket, Body: body})
		checkNone(t, api.Page{Kind: api.Overflow, Depth: 2, Next: 3, Body: body})
	}
}

// P801: long runs of calls on a page, held against a map.
func TestLongRun(t *testing.T) {
	next := numbers(8)
	p, m := bucketOf(), map[string]api.Cell{}
	counts := map[api.Errno]int{}
	for i := range 30000 {
		key := text(18)[next(2):][:next(17)+next(2)]
		if next(3) > 0 {
			p = runSet(t, p, m, chosenCell(next, key), counts)
		} else {
			p = runCut(t, p, m, key, counts)
		}
		if t.Failed() {
			t.Fatalf("call %d", i)
		}
		l := inOrder(m)
		checkPage(t, p, l...)
		if want := bucketOf(l...); p != want {
			t.Fatalf("call %d: the page is %v, want %v", i, p, want)
		}
	}
	for _, err := range []api.Errno{api.OK, api.ErrArg, api.ErrNone, api.ErrFull} {
		if counts[err] < 1000 {
			t.Errorf("only %d of the calls return %d", counts[err], err)
		}
	}
}

func chosenCell(next func(int) int, key string) api.Cell {
	switch next(8) {
	case 0:
		return in(key, text(41))
	case 1, 2, 3:
		return out(key, 2+next(62), 41+next(360))
	}
	return in(key, text(next(41)))
}

// runSet sets c in the page and, if it is to fit, in the map.
func runSet(t *testing.T, p api.Page, m map[string]api.Cell, c api.Cell, counts map[api.Errno]int) api.Page {
	t.Helper()
	now := maps.Clone(m)
	now[c.Key] = c
	want := api.OK
	if !mayBe(c) {
		want = api.ErrArg
	} else if left(inOrder(now)...) < 0 {
		want = api.ErrFull
	}
	counts[want]++
	if want != api.OK {
		checkSetError(t, p, c, want)
		return p
	}
	checkSet(t, p, c, inOrder(now)...)
	m[c.Key] = c
	p, _ = Set(p, c)
	return p
}

func runCut(t *testing.T, p api.Page, m map[string]api.Cell, key string, counts map[api.Errno]int) api.Page {
	t.Helper()
	if _, ok := m[key]; !ok {
		counts[api.ErrNone]++
		checkCutError(t, p, key, api.ErrNone)
		return p
	}
	delete(m, key)
	checkCut(t, p, key, inOrder(m)...)
	p, _ = Cut(p, key)
	return p
}

// parted is what Split is to return, by the library's hash.
func parted(depth int, l []api.Cell) ([]api.Cell, []api.Cell) {
	var lists [2][]api.Cell
	for _, c := range l {
		h := fnv.New32a()
		h.Write([]byte(c.Key))
		digits := fmt.Sprintf("%032b", h.Sum32())
		which := 0
		if 0 <= depth && depth <= 31 && digits[31-depth] == '1' {
			which = 1
		}
		lists[which] = append(lists[which], c)
	}
	return lists[0], lists[1]
}

func checkSplit(t *testing.T, depth int, l ...api.Cell) {
	t.Helper()
	x, y := parted(depth, l)
	before := slices.Clone(l)
	a, b := Split(depth, l...)
	if !slices.Equal(l, before) {
		t.Errorf("Split by bit %d changed its list", depth)
	}
	if !slices.Equal(a, x) || !slices.Equal(b, y) {
		t.Errorf("Split by bit %d of %d cells = %v and %v, want %v and %v", depth, len(l), a, b, x, y)
	}
}

// sorts are cells of all sorts in no order, Right and not, some of them more than once, also one after the other.
func sorts() []api.Cell {
	next := numbers(3)
	var l []api.Cell
	for i := range 300 {
		key := text(301)[next(2):][:next(300)]
		l = append(l, chosenCell(next, key), in(fmt.Sprint("k", 99-i%100), fmt.Sprint(i)))
	}
	return slices.Concat(l, l[100:110], wrong()[:200], slices.Repeat(l[:1], 3), slices.Repeat(l[1:2], 3))
}

// P802: each bit, and all numbers that are none; each list keeps the order.
func TestSplit(t *testing.T) {
	for _, l := range [][]api.Cell{nil, {}, {{}}, {in("a", "1")}, {in("b", "1")}, few(), sorts()} {
		for depth := -70; depth <= 300; depth++ {
			checkSplit(t, depth, l...)
		}
		for _, depth := range append(wide(), 1<<32, 1<<32+1, 1<<33+5, math.MinInt+1, math.MinInt+31, math.MaxInt-31, -32, -31) {
			checkSplit(t, depth, l...)
		}
	}
}

// P802: by the bits as they are known: the hash of a is 0xe40c292c.
func TestSplitKnown(t *testing.T) {
	c := in("a", "v")
	for depth := range 32 {
		a, b := Split(depth, c)
		if one := 0xe40c292c>>depth&1 == 1; slices.Equal(a, []api.Cell{c}) == one || slices.Equal(b, []api.Cell{c}) != one {
			t.Errorf("bit %d: %v and %v", depth, a, b)
		}
	}
}

// P802: the bits of the keys, not of the values; cells of both kinds, as they are.
func TestSplitByKey(t *testing.T) {
	for depth := range 32 {
		var l []api.Cell
		for i := range 20 {
			l = append(l, in("same", fmt.Sprint(i)), out("same", 2+i, 41+i), api.Cell{Key: "same", Value: "v", Blob: -i, Size: i})
		}
		a, b := Split(depth, l...)
		if len(a)*len(b) != 0 || !slices.Equal(append(a, b...), l) {
			t.Errorf("bit %d: cells with one key are in two lists: %d and %d", depth, len(a), len(b))
		}
	}
}

// P802: both lists empty, or one of them.
func TestSplitEmpty(t *testing.T) {
	for _, depth := range []int{-1, 0, 31, 32} {
		if a, b := Split(depth); len(a) != 0 || len(b) != 0 {
			t.Errorf("Split of no cells = %v and %v", a, b)
		}
	}
	for _, depth := range []int{math.MinInt, -1, 32, math.MaxInt} {
		if a, b := Split(depth, few()...); !slices.Equal(a, few()) || len(b) != 0 {
			t.Errorf("Split by bit %d = %v and %v", depth, a, b)
		}
	}
}

// DOC.md, rule 2: Split does not modify its list, nor what lies behind it, and its results share no memory with that or with each other.
func TestSplitApart(t *testing.T) {
	l := sorts()
	before := slices.Clone(l)
	for _, depth := range []int{-1, 0, 3, 31, 32} {
		a, b := Split(depth, l[:10]...)
		x, y := slices.Clone(a), slices.Clone(b)
		c, d := Split(depth, l[:10]...)
		clear(c)
		clear(d)
		_, _ = append(c, in("x", "")), append(d, in("x", ""))
		if !slices.Equal(a, x) || !slices.Equal(b, y) || !slices.Equal(l, before) {
			t.Fatalf("bit %d: a later result shares memory", depth)
		}
		clear(append(a, in("y", ""), in("z", "")))
		if !slices.Equal(b, y) || !slices.Equal(l, before) {
			t.Fatalf("bit %d: the lists share memory", depth)
		}
	}
}

// overlap reports whether two texts share memory.
func overlap(a, b string) bool {
	x, y := uintptr(unsafe.Pointer(unsafe.StringData(a))), uintptr(unsafe.Pointer(unsafe.StringData(b)))
	return len(a) > 0 && len(b) > 0 && x < y+uintptr(len(b)) && y < x+uintptr(len(a))
}

// DOC.md, rule 2: results share no memory with arguments or with later results.
func TestNewMemory(t *testing.T) {
	key, value := "key"+text(3), "value"+text(3)
	c := in(key, value)
	p := bucketOf(c, in("z", "zz"))
	found, _ := Find(p, key)
	set, _ := Set(p, c)
	set2, _ := Set(p, c)
	cut, _ := Cut(p, "z")
	a, b := Split(0, c)
	given := []string{key, value, p.Body}
	results := []string{found.Key, found.Value, set.Body, set2.Body, cut.Body}
	for _, o := range slices.Concat(Cells(p), Cells(p), a, b) {
		results = append(results, o.Key, o.Value)
	}
	for i, s := range results {
		for _, o := range append(given, results[:i]...) {
			if overlap(s, o) {
				t.Errorf("result %d, %.20q, shares memory with %.20q", i, s, o)
			}
		}
	}
	l := Cells(p)
	clear(l)
	checkPage(t, p, c, in("z", "zz"))
}

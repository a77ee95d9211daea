package cell

import (
	"fmt"
	"math"
	"slices"
	"strings"
	"testing"
	"unsafe"

	"honeycomb/api"
)

// text is n bytes that all differ from their neighbours, so that one that moved is seen.
func text(n int) string {
	b := make([]byte, n)
	for i := range b {
		b[i] = byte(i*7 + 65)
	}
	return string(b)
}

func in(key, value string) api.Cell { return api.Cell{Key: key, Value: value} }

func out(key string, blob, size int) api.Cell { return api.Cell{Key: key, Blob: blob, Size: size} }

// padded is s with zero bytes up to the length of a body.
func padded(s string) string { return s + strings.Repeat("\x00", 240-len(s)) }

// mayBe is what Right is to tell, said the other way round: all that may be wrong.
func mayBe(c api.Cell) bool {
	if len(c.Key) < 1 || len(c.Key) > 16 {
		return false
	}
	switch {
	case c.Blob == 0:
		return len(c.Value) < 41 && c.Size == 0
	case c.Blob < 2, c.Blob > 63, len(c.Value) > 0, c.Size < 41, c.Size > 400:
		return false
	}
	return true
}

// raw is the bytes of cells as they follow one another, with no regard to what fits.
func raw(l []api.Cell) string {
	s := string([]byte{byte(len(l))})
	for _, c := range l {
		s += string([]byte{byte(len(c.Key))}) + c.Key
		if c.Blob == 0 {
			s += string([]byte{0, 0, byte(len(c.Value))}) + c.Value
		} else {
			s += string([]byte{1, byte(c.Size / 256), byte(c.Size % 256), 0, byte(c.Blob)})
		}
	}
	return s
}

// encoded is what Put is to return for cells that fit in ascending order.
func encoded(l []api.Cell) string { return padded(raw(l)) }

// decoded is what Get is to return, found step by step with every fault told where it is.
func decoded(b string) ([]api.Cell, bool) {
	if len(b) != 240 {
		return nil, false
	}
	var l []api.Cell
	at := 1
	for range int(b[0]) {
		if at == 240 {
			return nil, false
		}
		n := int(b[at])
		at++
		if n < 1 || n > 16 || at+n+3 > 240 {
			return nil, false
		}
		c := api.Cell{Key: b[at : at+n]}
		at += n
		mark, number := b[at], int(b[at+1])*256+int(b[at+2])
		at += 3
		switch {
		case mark == 0 && number <= 40 && at+number <= 240:
			c.Value = b[at : at+number]
			at += number
		case mark == 1 && number >= 41 && number <= 400 && at+2 <= 240 && b[at] == 0 && b[at+1] >= 2 && b[at+1] <= 63:
			c.Size, c.Blob = number, int(b[at+1])
			at += 2
		default:
			return nil, false
		}
		if len(l) > 0 && l[len(l)-1].Key >= c.Key {
			return nil, false
		}
		l = append(l, c)
	}
	return l, strings.Trim(b[at:], "\x00") == ""
}

func show(c api.Cell) string {
	return fmt.Sprintf("{%d bytes %.20q, %d bytes %.20q, blob %d, size %d}", len(c.Key), c.Key, len(c.Value), c.Value, c.Blob, c.Size)
}

func checkRight(t *testing.T, c api.Cell, want bool) {
	t.Helper()
	if got := Right(c); got != want {
		t.Errorf("Right of %s is %v", show(c), got)
	}
}

func checkSize(t *testing.T, c api.Cell, want int) {
	t.Helper()
	if got := Size(c); got != want {
		t.Errorf("Size of %s = %d, want %d", show(c), got, want)
	}
}

func checkFits(t *testing.T, what string, want bool, l ...api.Cell) {
	t.Helper()
	if got := Fits(l...); got != want {
		t.Errorf("%s: Fits of %d cells is %v", what, len(l), got)
	}
}

func checkPut(t *testing.T, what, want string, wantOk bool, l ...api.Cell) {
	t.Helper()
	if got, ok := Put(l...); got != want || ok != wantOk {
		t.Errorf("%s: Put of %d cells = %d bytes %q, %v, want %d bytes %q, %v", what, len(l), len(got), got, ok, len(want), want, wantOk)
	}
}

func checkGet(t *testing.T, what, b string, want []api.Cell, wantOk bool) {
	t.Helper()
	if got, ok := Get(b); !slices.Equal(got, want) || ok != wantOk {
		t.Errorf("%s: Get of %.60q = %v, %v, want %v, %v", what, b, got, ok, want, wantOk)
	}
}

// checkBody is for cells that fit in ascending order: their bytes, and back.
func checkBody(t *testing.T, what string, l ...api.Cell) {
	t.Helper()
	checkFits(t, what, true, l...)
	checkPut(t, what, encoded(l), true, l...)
	checkGet(t, what, encoded(l), l, true)
}

// checkNone is for bytes that are no body.
func checkNone(t *testing.T, what, b string) {
	t.Helper()
	checkGet(t, what, b, nil, false)
}

// far are numbers that are never a Blob or a Size above 0, among them some whose lowest bytes are one's.
func far() []int {
	return []int{-1, -2, -41, -63, -64, -255, -256, -400, 401, 402, 512, 65535, 65536, 65538, 65536 + 41, 65536 + 63, 1 << 31, 1<<31 + 2, 1 << 32, 1<<32 + 2, 1<<32 + 41, math.MaxInt, math.MaxInt - 1, math.MinInt, math.MinInt + 2, math.MinInt + 41}
}

// P701, Right: every length of a key, both kinds of cells.
func TestRightKey(t *testing.T) {
	for n := range 600 {
		checkRight(t, in(text(n), ""), n >= 1 && n <= 16)
		checkRight(t, in(text(n), "value"), n >= 1 && n <= 16)
		checkRight(t, out(text(n), 2, 41), n >= 1 && n <= 16)
	}
	checkRight(t, in(text(65536+1), ""), false)
	for c := range 256 {
		checkRight(t, in(string([]byte{byte(c)}), ""), true)
	}
	checkRight(t, in(strings.Repeat("é", 8), ""), true) // bytes count, not runes
	checkRight(t, in(strings.Repeat("é", 9), ""), false)
	checkRight(t, api.Cell{}, false)
}

// P701, Right: every length of a value that the cell contains.
func TestRightValue(t *testing.T) {
	for n := range 600 {
		checkRight(t, in("k", text(n)), n <= 40)
	}
	checkRight(t, in("k", text(65536)), false)
	checkRight(t, in("k", strings.Repeat("é", 20)), true)
	checkRight(t, in("k", strings.Repeat("é", 21)), false)
}

// P701, Right: a cell that contains its value has Size 0.
func TestRightInsideSize(t *testing.T) {
	for _, value := range []string{"", "v", text(40)} {
		checkRight(t, api.Cell{Key: "k", Value: value}, true)
		for _, size := range append(far(), 1, 2, len(value), 40, 41, 42, 399, 400) {
			if size != 0 {
				checkRight(t, api.Cell{Key: "k", Value: value, Size: size}, false)
			}
		}
	}
}

// P701, Right: every Blob with every Size.
func TestRightOutside(t *testing.T) {
	for blob := -70; blob <= 300; blob++ {
		for size := -3; size <= 500; size++ {
			checkRight(t, out("k", blob, size), blob == 0 && size == 0 || blob >= 2 && blob <= 63 && size >= 41 && size <= 400)
		}
	}
	for _, n := range far() {
		checkRight(t, out("k", n, 41), false)
		checkRight(t, out("k", n, n), false)
		checkRight(t, out("k", n, 0), false)
		checkRight(t, out("k", 2, n), false)
		checkRight(t, out("k", 63, n), false)
	}
}

// P701, Right: a cell whose value is elsewhere has none in it.
func TestRightOutsideValue(t *testing.T) {
	for _, n := range []int{1, 2, 40, 41, 200, 400, 401} {
		checkRight(t, api.Cell{Key: "k", Value: text(n), Blob: 2, Size: 41}, false)
		checkRight(t, api.Cell{Key: "k", Value: text(n), Blob: 63, Size: 400}, false)
		checkRight(t, api.Cell{Key: "k", Value: text(n), Blob: 2, Size: max(n, 41)}, false)
	}
	checkRight(t, api.Cell{Key: "k", Value: "\x00", Blob: 2, Size: 41}, false)
}

// mixed are cells of all sorts, Right and not.
func mixed() []api.Cell {
	var l []api.Cell
	for _, key := range []string{"", "k", text(16), text(17)} {
		for _, value := range []string{"", "v", text(40), text(41)} {
			for _, blob := range []int{-1, 0, 1, 2, 63, 64} {
				for _, size := range []int{-1, 0, 1, 40, 41, 400, 401} {
					l = append(l, api.Cell{Key: key, Value: value, Blob: blob, Size: size})
				}
			}
		}
	}
	return l
}

// P701, Right, and Fits and Put of one cell, which hang on it alone: all sorts.
func TestOneCell(t *testing.T) {
	for _, c := range mixed() {
		checkRight(t, c, mayBe(c))
		checkFits(t, show(c), mayBe(c), c)
		if mayBe(c) {
			checkBody(t, show(c), c)
		} else {
			checkPut(t, show(c), "", false, c)
		}
	}
}

// P701, Size: 4, the key, and the value or the two bytes of Blob; of every cell, Right or not.
func TestSize(t *testing.T) {
	checkSize(t, in("a", "bc"), 7)
	checkSize(t, in("a", ""), 5)
	checkSize(t, in(text(16), text(40)), 60)
	checkSize(t, out(text(16), 63, 400), 22)
	checkSize(t, in(strings.Repeat("é", 8), strings.Repeat("é", 20)), 60)
	checkSize(t, api.Cell{}, 4)
	for _, c := range mixed() {
		want := 4 + len(c.Key) + len(c.Value)
		if c.Blob != 0 {
			want = 4 + len(c.Key) + 2
		}
		checkSize(t, c, want)
	}
	for _, n := range far() {
		checkSize(t, api.Cell{Key: "key", Value: text(10), Size: n}, 17)
		checkSize(t, api.Cell{Key: "key", Value: text(10), Blob: n}, 9)
	}
	checkSize(t, in(text(1000), text(100000)), 101004)
}

// P701, Size: it is the bytes that the cell takes in a body.
func TestSizeEncoded(t *testing.T) {
	for n := 1; n <= 16; n++ {
		for v := range 41 {
			checkTaken(t, in(strings.Repeat("k", n), strings.Repeat("v", v)))
		}
		checkTaken(t, out(strings.Repeat("k", n), 63, 300))
	}
}

// checkTaken is for a cell whose last byte is not 0.
func checkTaken(t *testing.T, c api.Cell) {
	t.Helper()
	one, _ := Put(c)
	two, _ := Put(c, in("z", "z"))
	if at := strings.Index(two, "\x01z\x00\x00\x01z"); at != 1+Size(c) || one[1:at] != two[1:at] {
		t.Errorf("what follows %s begins at %d, its Size is %d", show(c), at, Size(c))
	}
}

// filler are cells whose Sizes sum up to n, 5 or more, in ascending order of their keys.
func filler(n int) []api.Cell {
	var l []api.Cell
	for n > 0 {
		size := min(n, 45)
		if left := n - size; 0 < left && left < 5 { // too few for one more
			size -= 5
		}
		l = append(l, in(string([]byte{byte(len(l) + 1)}), text(size-5)))
		n -= size
	}
	return l
}

// P701, Fits and Put: 1 plus the sum of the Sizes is at most 240, with cells of both kinds.
func TestRoom(t *testing.T) {
	checkBody(t, "none")
	for n := 5; n <= 800; n++ {
		checkRoom(t, n, filler(n))
	}
	for n := 60; n <= 800; n++ {
		checkRoom(t, n, append(filler(n-43), out("y"+text(15), 63, 400), out("z"+text(14), 2, 41)))
	}
}

// checkRoom is for cells in ascending order whose Sizes sum up to n.
func checkRoom(t *testing.T, n int, l []api.Cell) {
	t.Helper()
	what := fmt.Sprintf("%d bytes", n)
	backwards := slices.Clone(l)
	slices.Reverse(backwards)
	if n <= 239 {
		checkBody(t, what, l...)
		checkFits(t, what, true, backwards...)
		return
	}
	checkFits(t, what, false, l...)
	checkFits(t, what, false, backwards...)
	checkPut(t, what, "", false, l...)
}

// small are so many cells with keys of one byte and empty values, in ascending order; from the 256th on, the keys begin again.
func small(n int) []api.Cell {
	var l []api.Cell
	for i := range n {
		l = append(l, in(string([]byte{byte(i)}), ""))
	}
	return l
}

// P701, Fits and Put: as many cells as there can be, and more, also so many that one byte does not hold their number.
func TestMany(t *testing.T) {
	for n := range 48 {
		checkBody(t, "small cells", small(n)...)
	}
	for _, n := range []int{48, 49, 50, 100, 239, 240, 255, 256, 257, 256 + 47, 1000, 65536, 65536 + 1, 1 << 20} {
		checkFits(t, "small cells", false, small(n)...)
		checkPut(t, "small cells", "", false, small(n)...)
	}
	for _, n := range []int{256, 65536} { // the number is 0 in its lowest byte
		same := slices.Repeat([]api.Cell{in("k", "")}, n)
		checkFits(t, "the same cell", false, same...)
		checkPut(t, "the same cell", "", false, same...)
	}
}

// P701, Fits: the order does not matter, Put: it does. All orders of some cells.
func TestOrders(t *testing.T) {
	l := []api.Cell{in("a", "1"), out("a\x00", 9, 99), in("aa", "\xff"), in("b", ""), out("\xff", 2, 41)}
	checkBody(t, "ascending", l...)
	orders(l, func(other []api.Cell) {
		checkFits(t, "in another order", true, other...)
		if slices.Equal(other, l) {
			checkPut(t, "in this order", encoded(l), true, other...)
		} else {
			checkPut(t, "in another order", "", false, other...)
			checkNone(t, "in another order", encoded(other))
		}
	})
}

// orders hands every order of l to do.
func orders(l []api.Cell, do func([]api.Cell)) {
	var place func(at int)
	now := slices.Clone(l)
	place = func(at int) {
		if at == len(now) {
			do(slices.Clone(now))
			return
		}
		for i := at; i < len(now); i++ {
			now[at], now[i] = now[i], now[at]
			place(at + 1)
			now[at], now[i] = now[i], now[at]
		}
	}
	place(0)
}

// P701, Put: keys are compared by their bytes, a beginning before what goes on after it.
func TestAscending(t *testing.T) {
	keys := []string{"\x00", "\x00\x00", "\x00\x01", "\x01", "A", "a", "a\x00", "aa", "ab", "b", "z", "\x7f", "\x80", "é", "\xff", "\xff\xff"}
	for i, a := range keys {
		for j, b := range keys {
			pair := []api.Cell{in(a, "v"), in(b, "w")}
			checkFits(t, fmt.Sprintf("%q %q", a, b), i != j, pair...)
			if i < j {
				checkBody(t, fmt.Sprintf("%q before %q", a, b), pair...)
			} else {
				checkPut(t, fmt.Sprintf("%q before %q", a, b), "", false, pair...)
				checkNone(t, fmt.Sprintf("%q before %q", a, b), encoded(pair))
			}
		}
	}
}

// P701, Fits and Put: no two cells with the same Key, wherever they stand and whatever else they contain.
func TestSameKey(t *testing.T) {
	l := []api.Cell{in("a", "1"), in("b", "2"), in("c", "3"), out("d", 4, 44), in("e", "5")}
	for i := range l {
		for at := range len(l) + 1 {
			for _, c := range []api.Cell{l[i], in(l[i].Key, ""), in(l[i].Key, "zz"), out(l[i].Key, 7, 77)} {
				twice := slices.Insert(slices.Clone(l), at, c)
				checkFits(t, "twice "+c.Key, false, twice...)
				checkPut(t, "twice "+c.Key, "", false, twice...)
				checkNone(t, "twice "+c.Key, encoded(twice))
			}
		}
	}
	checkBody(t, "the same values", in("a", "v"), in("b", "v"), in("c", "v"), out("d", 5, 55), out("e", 5, 55))
	checkFits(t, "another case of letters", true, in("k", ""), in("K", ""))
	checkFits(t, "copies of one text", false, in("key", ""), in(strings.Clone("key"), ""))
}

// P701, Fits and Put: a cell that is not Right, wherever it stands.
func TestOneWrong(t *testing.T) {
	good := []api.Cell{in("a", "1"), out("d", 2, 41), in("x", "3")}
	for _, c := range mixed() {
		if mayBe(c) {
			continue
		}
		for at := range len(good) + 1 {
			l := slices.Insert(slices.Clone(good), at, c)
			checkFits(t, show(c), false, l...)
			checkPut(t, show(c), "", false, l...)
		}
	}
	for _, n := range far() {
		checkFits(t, "far off", false, in("a", "1"), out("b", n, 41))
		checkPut(t, "far off", "", false, in("a", "1"), out("b", 2, n))
	}
}

// P701, Put: the bytes as they stand in the document.
func TestPutBytes(t *testing.T) {
	checkPut(t, "none", padded(""), true)
	checkPut(t, "a value", padded("\x01\x01a\x00\x00\x02bc"), true, in("a", "bc"))
	checkPut(t, "an empty value", padded("\x01\x03abc\x00\x00\x00"), true, in("abc", ""))
	checkPut(t, "a page", padded("\x01\x01a\x01\x01\x2c\x00\x3f"), true, out("a", 63, 300))
	checkPut(t, "least page", padded("\x01\x01a\x01\x00\x29\x00\x02"), true, out("a", 2, 41))
	checkPut(t, "greatest size", padded("\x01\x01a\x01\x01\x90\x00\x3f"), true, out("a", 63, 400))
	checkPut(t, "both", padded("\x03\x01\x00\x00\x00\x01\x00\x02kk\x01\x00\xff\x00\x09\x03kkk\x00\x00\x03vvv"), true, in("\x00", "\x00"), out("kk", 9, 255), in("kkk", "vvv"))
	long := "\x10" + text(16) + "\x00\x00\x28" + text(40)
	checkPut(t, "longest", padded("\x01"+long), true, in(text(16), text(40)))
	if b, _ := Put(filler(239)...); len(b) != api.Room {
		t.Errorf("Put returns %d bytes, want %d", len(b), api.Room)
	}
}

// P701, Put and Get: every length of a key and a value, and every page and size.
func TestEachNumber(t *testing.T) {
	for n := 1; n <= 16; n++ {
		for v := range 41 {
			checkBody(t, "lengths", in(text(n), text(v)), in("~", "~"))
		}
	}
	for blob := 2; blob <= 63; blob++ {
		for size := 41; size <= 400; size++ {
			checkBody(t, "numbers", out("k", blob, size), in("~", "~"))
		}
	}
}

// bodies are some that may be, of all sorts.
func bodies() []string {
	return []string{
		encoded(nil),
		encoded([]api.Cell{in("a", "bc")}),
		encoded([]api.Cell{in("a", "bc"), out("ab", 3, 300), in("b\x00", "")}),
		encoded([]api.Cell{out("a", 2, 256), out("b", 16, 41)}),
		encoded([]api.Cell{in("\x01", "\x00"), in("\x02", "\x00\x00")}),
		encoded(filler(239)),
		encoded(append(filler(217), out("z"+text(15), 63, 400))),
		encoded(small(47)),
	}
}

// P701, Get: false for every length but Room.
func TestGetLength(t *testing.T) {
	for _, b := range bodies() {
		for n := range b {
			checkNone(t, "too short", b[:n])
		}
		for n := 1; n <= 300; n++ {
			checkNone(t, "too long", b+strings.Repeat("\x00", n))
		}
		checkNone(t, "without its first byte", b[1:]+"\x00\x00")
		checkNone(t, "a page", strings.Repeat("\x00", 16)+b)
		checkNone(t, "twice", b+b)
	}
	checkNone(t, "nothing", "")
	checkNone(t, "very long", "\xff"+strings.Repeat("\xff", 1<<20))
}

// checkOracle holds Get against the reading of the tests.
func checkOracle(t *testing.T, what, b string) bool {
	t.Helper()
	want, ok := decoded(b)
	if !ok {
		want = nil
	}
	checkGet(t, what, b, want, ok)
	if ok {
		checkPut(t, what, b, true, want...)
	}
	return ok
}

// P701, Get: any one byte of a body turned to any other.
func TestGetEachByte(t *testing.T) {
	for _, good := range bodies() {
		for at := range good {
			for c := range 256 {
				checkOracle(t, "turned", good[:at]+string([]byte{byte(c)})+good[at+1:])
			}
		}
	}
}

// P701, Get: one cell, with each number of one or two bytes that may stand there.
func TestGetNumbers(t *testing.T) {
	body := func(s string) string { return padded("\x01\x01k" + s + "~~~") }
	for _, high := range []int{0, 1, 2, 3, 16, 40, 41, 63, 127, 128, 255} {
		for low := range 256 {
			two := string([]byte{byte(high), byte(low)})
			for _, mark := range []string{"\x00", "\x01", "\x02", "\xff"} {
				checkOracle(t, "a length or size", padded("\x01\x01k"+mark+two+"\x00\x02"))
				checkOracle(t, "a length or size", body(mark+two))
				checkOracle(t, "a page", padded("\x01\x01k"+mark+"\x00\x29"+two))
			}
			checkOracle(t, "a number of cells, and a length", padded(two+"k\x00\x00\x00"))
			checkOracle(t, "a length, and a mark", padded("\x01"+two+text(16)+"\x00\x00\x00"))
		}
	}
}

// P701, Get: the last cell lacks something, as the body ends before it does.
func TestGetCut(t *testing.T) {
	for _, last := range [][]api.Cell{nil, {in("~", text(40))}, {in("~"+text(15), text(40))}, {in("~"+text(15), "")}, {out("~"+text(15), 33, 333)}} {
		for n := 240; n <= 330; n++ {
			l := append(filler(n-60), last...)
			if b := raw(l); len(b) > 240 {
				checkNone(t, "cut", b[:240])
			} else {
				checkGet(t, "not cut", padded(b), l, true)
			}
		}
	}
	for n := 241; n <= 300; n++ {
		b := raw(filler(n))
		checkNone(t, "cut", b[:240])
	}
}

// P701, Get: more cells than there are, and fewer; bytes behind the last one.
func TestGetCount(t *testing.T) {
	for _, b := range bodies() {
		for n := range 256 {
			checkOracle(t, "another number", string([]byte{byte(n)})+b[1:])
		}
	}
	one, none := encoded([]api.Cell{in("a", "bc")}), padded("")
	for at := 8; at < 240; at++ {
		checkNone(t, "a byte behind one cell", one[:at]+"\x01"+one[at+1:])
	}
	for at := 1; at < 240; at++ {
		checkNone(t, "a byte behind no cells", none[:at]+"\x01"+none[at+1:])
	}
}

// numbers is a row of numbers that look like chance and are always the same.
func numbers(seed uint32) func(below int) int {
	return func(below int) int {
		seed = seed*1664525 + 1013904223
		return int(seed>>8) % below
	}
}

// P701, Get: bodies put together from pieces of cells and from whatever bytes, held against the reading of the tests.
func TestGetPieces(t *testing.T) {
	next := numbers(7)
	pieces := []string{"\x00", "\x00", "\x01", "\x02", "\x10", "\x11", "\x28", "\x29", "\x3f", "\x40", "\x90", "\xff", "k", "\x01a\x00\x00\x00", "\x01b\x00\x00\x01v", "\x01c\x01\x00\x29\x00\x02", "\x01d\x01\x01\x90\x00\x3f", "\x02dd\x00\x00\x02vv", "\x01e\x00\x00\x00"}
	found := 0
	for range 200000 {
		s := string([]byte{byte(next(5))})
		for range next(8) {
			s += pieces[next(len(pieces))]
		}
		if checkOracle(t, "pieces", padded(s)) {
			found++
		}
	}
	if found < 1000 {
		t.Errorf("only %d of the strings were bodies", found)
	}
	for range 20000 {
		b := make([]byte, 240)
		for i := range b {
			b[i] = byte(next(256))
		}
		b[0] = byte(next(4))
		checkOracle(t, "whatever bytes", string(b))
	}
}

// P701: whatever fits, Put has bytes for it in ascending order, and Get gives it back.
func TestPutGetMany(t *testing.T) {
	next := numbers(9)
	fitted := 0
	for range 50000 {
		l := chosen(next)
		sum, keys, right := 1, map[string]int{}, true
		for _, c := range l {
			sum += Size(c)
			keys[c.Key]++
			right = right && mayBe(c)
		}
		fits := right && sum <= 240 && len(keys) == len(l)
		checkFits(t, "chosen", fits, l...)
		slices.SortFunc(l, func(a, b api.Cell) int { return strings.Compare(a.Key, b.Key) })
		if fits {
			fitted++
			checkBody(t, "chosen", l...)
		} else {
			checkPut(t, "chosen", "", false, l...)
		}
	}
	if fitted < 10000 || fitted > 40000 {
		t.Errorf("%d of the lists fitted", fitted)
	}
}

// chosen are a few cells, nearly all of them Right.
func chosen(next func(int) int) []api.Cell {
	var l []api.Cell
	for range next(16) {
		key := make([]byte, 1+next(16))
		for i := range key {
			key[i] = byte(next(256))
		}
		if next(9) == 0 {
			key = key[:1]
		}
		c := in(string(key), text(next(41)))
		if next(3) == 0 {
			c = out(string(key), 2+next(62), 41+next(360))
		}
		if next(40) == 0 {
			c.Size++
		}
		l = append(l, c)
	}
	return l
}

// DOC.md, rule 2: Fits and Put do not modify their list, nor what lies behind it.
func TestKeeps(t *testing.T) {
	l := []api.Cell{in("c", "3"), in("b", "2"), out("a", 2, 41), in("d", "4"), {}, in("x", "y")}
	before := slices.Clone(l)
	for n := range len(l) + 1 {
		Fits(l[:n]...)
		Put(l[:n]...)
		Put(l[n:]...)
		if !slices.Equal(l, before) {
			t.Fatalf("the list became %v", l)
		}
	}
}

// DOC.md, rule 5: a nil list is an empty one, which fits.
func TestNil(t *testing.T) {
	checkFits(t, "nil", true)
	checkFits(t, "empty", true, []api.Cell{}...)
	checkPut(t, "nil", padded(""), true)
	checkPut(t, "empty", padded(""), true, []api.Cell{}...)
	checkGet(t, "none", padded(""), nil, true)
}

// overlap reports whether two texts share memory.
func overlap(a, b string) bool {
	x, y := uintptr(unsafe.Pointer(unsafe.StringData(a))), uintptr(unsafe.Pointer(unsafe.StringData(b)))
	return len(a) > 0 && len(b) > 0 && x < y+uintptr(len(b)) && y < x+uintptr(len(a))
}

// DOC.md, rule 2: results share no memory with arguments or with later results.
func TestNewMemory(t *testing.T) {
	l := []api.Cell{in("aaa", "value of a"), out("bbb", 2, 41), in("ccc", "value of c")}
	b, _ := Put(l...)
	one, _ := Get(b)
	two, _ := Get(b)
	for i, c := range one {
		for _, s := range []string{b, two[i].Key, two[i].Value, l[i].Key, l[i].Value} {
			if overlap(c.Key, s) || overlap(c.Value, s) {
				t.Errorf("cell %d shares memory with %q", i, s)
			}
		}
	}
	again, _ := Put(l...)
	if overlap(b, again) {
		t.Error("two answers of Put share memory")
	}
	one[0].Key = "zzz"
	if two[0].Key != "aaa" {
		t.Error("two answers of Get share memory")
	}
}

package frame

import (
	"encoding/binary"
	"fmt"
	"math"
	"slices"
	"strings"
	"testing"
	"unsafe"

	"honeycomb/api"
)

// numbers is a row of numbers that look like chance and are always the same.
func numbers(seed uint32) func(below int) int {
	return func(below int) int {
		seed = seed*1664525 + 1013904223
		return int(seed>>8) % below
	}
}

// text is n bytes that all differ from their neighbours, so that one that moved is seen.
func text(n int) string {
	b := make([]byte, n)
	for i := range b {
		b[i] = byte(i*7 + 65)
	}
	return string(b)
}

// texts are texts of these lengths.
func texts(lengths ...int) []string {
	var l []string
	for _, n := range lengths {
		l = append(l, text(n))
	}
	return l
}

func zeros(n int) string { return strings.Repeat("\x00", n) }

// wide are numbers of all sorts, among them some whose lowest bytes may be a field's.
func wide() []int {
	l := []int{math.MaxInt, math.MaxInt - 1, math.MinInt, math.MinInt + 1, math.MinInt + 5}
	for _, n := range []int{0, 1 << 8, 1 << 15, 1 << 16, 1 << 24, 1 << 31, 1 << 32, 1 << 40, 1 << 48} {
		for d := -9; d <= 9; d++ {
			l = append(l, n+d, -n+d)
		}
	}
	return l
}

// encoded is the bytes of a sector, with no regard to whether it may be, but that its Payload has room.
func encoded(s Sector) string {
	b := make([]byte, 64)
	binary.BigEndian.PutUint32(b, uint32(s.Epoch))
	binary.BigEndian.PutUint16(b[4:], uint16(s.Index))
	b[6] = 1
	if s.Fresh {
		b[6] = 2
	}
	b[7] = byte(len(s.Payload))
	copy(b[8:], s.Payload)
	return string(b)
}

// decoded is what Get is to return, with each fault found where it is.
func decoded(b string) (Sector, bool) {
	if len(b) != 64 {
		return Sector{}, false
	}
	epoch, size := binary.BigEndian.Uint32([]byte(b)), int(b[7])
	if epoch == 0 || b[6] != 1 && b[6] != 2 || size == 0 || size > 56 || b[8+size:] != zeros(56-size) {
		return Sector{}, false
	}
	return Sector{Epoch: int(epoch), Index: int(b[4])*256 + int(b[5]), Fresh: b[6] == 2, Payload: b[8 : 8+size]}, true
}

// mayBe is what Put is to accept, said the other way round: all that may be wrong.
func mayBe(s Sector) bool {
	return !(s.Epoch < 1 || s.Epoch > 4294967295 || s.Index < 0 || s.Index > 65535 || s.Payload == "" || len(s.Payload) > 56)
}

// streamed is the stream of a list and true, or false if there is none.
func streamed(l []string) (string, bool) {
	var s strings.Builder
	for _, r := range l {
		if len(r) < 1 || len(r) > 65535 {
			return "", false
		}
		s.Write(binary.BigEndian.AppendUint16(nil, uint16(len(r))))
		s.WriteString(r)
	}
	return s.String(), len(l) > 0
}

// batched is what Batch is to return.
func batched(epoch, index int, l ...string) ([]string, bool) {
	s, ok := streamed(l)
	if !ok {
		return nil, false
	}
	var sectors []string
	for at := 0; at < len(s); at += 56 {
		x := Sector{Epoch: epoch, Index: index + at/56, Fresh: at == 0, Payload: s[at:min(at+56, len(s))]}
		if !mayBe(x) {
			return nil, false
		}
		sectors = append(sectors, encoded(x))
	}
	return sectors, true
}

// accepted are the sectors of a log that are not ignored.
func accepted(l []string) []Sector {
	var good []Sector
	for at, b := range l {
		s, ok := decoded(b)
		if !ok || s.Index != at {
			return good
		}
		if at == 0 && !s.Fresh {
			return good
		}
		if at > 0 && (s.Epoch < good[at-1].Epoch || s.Epoch != good[at-1].Epoch && !s.Fresh) {
			return good
		}
		good = append(good, s)
	}
	return good
}

// scanned is what Scan is to return: each run of payloads is put together, and then read.
func scanned(l []string) ([]string, int, int) {
	good := accepted(l)
	var records []string
	next, epoch := 0, 0
	for first := 0; first < len(good); {
		end := first + 1
		for end < len(good) && !good[end].Fresh {
			end++
		}
		run := ""
		for _, s := range good[first:end] {
			run += s.Payload
		}
		at := 0
		for at+2 <= len(run) {
			n := int(binary.BigEndian.Uint16([]byte(run[at:])))
			if n == 0 || at+2+n > len(run) {
				break
			}
			records = append(records, run[at+2:at+2+n])
			at += 2 + n
			next, epoch = holder(good[first:end], at-1)
		}
		first = end
	}
	return records, next, epoch
}

// holder is the position after the sector that has this byte of a run, and its epoch.
func holder(run []Sector, at int) (int, int) {
	for _, s := range run {
		if at < len(s.Payload) {
			return s.Index + 1, s.Epoch
		}
		at -= len(s.Payload)
	}
	return -1, -1
}

func show(l []string) string {
	var s strings.Builder
	for i, b := range l {
		if i == 12 {
			fmt.Fprintf(&s, "and %d more ", len(l)-i)
			break
		}
		fmt.Fprintf(&s, "%d bytes %.24q, ", len(b), b)
	}
	return s.String()
}

func checkPut(t *testing.T, s Sector) {
	t.Helper()
	want := ""
	if mayBe(s) {
		want = encoded(s)
	}
	if got, ok := Put(s); got != want || ok != mayBe(s) {
		t.Errorf("Put(%d %d %v, %d bytes %.20q) = %q, %v, want %q", s.Epoch, s.Index, s.Fresh, len(s.Payload), s.Payload, got, ok, want)
	}
}

func checkGet(t *testing.T, b string) {
	t.Helper()
	want, is := decoded(b)
	if got, ok := Get(b); got != want || ok != is {
		t.Errorf("Get of %d bytes %.70q = %#v, %v, want %#v, %v", len(b), b, got, ok, want, is)
	}
}

func checkGetNone(t *testing.T, b string) {
	t.Helper()
	if got, ok := Get(b); got != (Sector{}) || ok {
		t.Errorf("Get of %d bytes %.70q = %#v, %v, want none", len(b), b, got, ok)
	}
}

// checkBatch holds Batch and Count against what they are to be, and returns the sectors.
func checkBatch(t *testing.T, epoch, index int, l ...string) []string {
	t.Helper()
	want, is := batched(epoch, index, l...)
	got, ok := Batch(epoch, index, l...)
	if !slices.Equal(got, want) || ok != is {
		t.Errorf("Batch(%d, %d) of %d records %s= %d sectors %s%v, want %d sectors %s%v", epoch, index, len(l), show(l), len(got), show(got), ok, len(want), show(want), is)
	}
	s, _ := streamed(l)
	checkCount(t, (len(s)+55)/56, l...)
	return got
}

func checkBatchNone(t *testing.T, epoch, index int, l ...string) {
	t.Helper()
	if got, ok := Batch(epoch, index, l...); len(got) != 0 || ok {
		t.Errorf("Batch(%d, %d) of %d records %s= %d sectors, %v, want none", epoch, index, len(l), show(l), len(got), ok)
	}
}

func checkCount(t *testing.T, want int, l ...string) {
	t.Helper()
	if got := Count(l...); got != want {
		t.Errorf("Count of %d records %s= %d, want %d", len(l), show(l), got, want)
	}
}

func checkScanned(t *testing.T, l, records []string, next, epoch int) {
	t.Helper()
	if r, n, e := Scan(l...); !slices.Equal(r, records) || n != next || e != epoch {
		t.Errorf("Scan of %d sectors %s= %d records %s%d, %d, want %d records %s%d, %d", len(l), show(l), len(r), show(r), n, e, len(records), show(records), next, epoch)
	}
}

// checkScan holds Scan against what it is to be, and returns the records.
func checkScan(t *testing.T, l ...string) []string {
	t.Helper()
	records, next, epoch := scanned(l)
	checkScanned(t, l, records, next, epoch)
	return records
}

// raw is a log of sectors of one epoch, each with its position as Index; a payload behind "+" goes on with the stream before it.
func raw(epoch int, payloads ...string) []string {
	var l []string
	for i, p := range payloads {
		rest, goesOn := strings.CutPrefix(p, "+")
		l = append(l, encoded(Sector{Epoch: epoch, Index: i, Fresh: !goesOn, Payload: rest}))
	}
	return l
}

// The chapter's examples.
func TestExamples(t *testing.T) {
	checkCount(t, 2, text(60))
	checkScanned(t, nil, nil, 0, 0)
}

// P1301, Put: the bytes as they are written out.
func TestPutKnown(t *testing.T) {
	for _, c := range []struct {
		s    Sector
		want string
	}{
		{Sector{Epoch: 0x01020304, Index: 0x0506, Fresh: true, Payload: "ab"}, "\x01\x02\x03\x04\x05\x06\x02\x02ab" + zeros(54)},
		{Sector{Epoch: 0x01020304, Index: 0x0506, Payload: "ab"}, "\x01\x02\x03\x04\x05\x06\x01\x02ab" + zeros(54)},
		{Sector{Epoch: 1, Payload: "\x00"}, "\x00\x00\x00\x01\x00\x00\x01\x01" + zeros(56)},
		{Sector{Epoch: 4294967295, Index: 65535, Fresh: true, Payload: strings.Repeat("p", 56)}, "\xff\xff\xff\xff\xff\xff\x02\x38" + strings.Repeat("p", 56)},
	} {
		if got, ok := Put(c.s); got != c.want || !ok {
			t.Errorf("Put(%#v) = %q, %v, want %q", c.s, got, ok, c.want)
		}
		if got, ok := Get(c.want); got != c.s || !ok {
			t.Errorf("Get(%q) = %#v, %v, want %#v", c.want, got, ok, c.s)
		}
	}
}

// P1301, Put: each number of all sorts, in each field, with each mark.
func TestPutNumbers(t *testing.T) {
	for _, n := range wide() {
		for _, m := range wide() {
			checkPut(t, Sector{Epoch: n, Index: m, Fresh: m&1 == 1, Payload: "payload"})
		}
		checkPut(t, Sector{Epoch: n, Index: 7, Payload: text(57)})
		checkPut(t, Sector{Epoch: 7, Index: n})
	}
	for n := range 70000 {
		checkPut(t, Sector{Epoch: n, Index: 3, Payload: "e"})
		checkPut(t, Sector{Epoch: 3, Index: n, Fresh: true, Payload: "i"})
	}
	checkPut(t, Sector{})
}

// P1301, Put and Get: payloads of each length and of all sorts of bytes.
func TestPayloads(t *testing.T) {
	for n := range 600 {
		for _, p := range []string{text(n), zeros(n), strings.Repeat("\xff", n), strings.Repeat("\x00x", n)[:n], strings.Repeat("é", n)[:n]} {
			for _, isFresh := range []bool{false, true} {
				s := Sector{Epoch: 5, Index: 6, Fresh: isFresh, Payload: p}
				checkPut(t, s)
				if !mayBe(s) {
					continue
				}
				if got, ok := Get(encoded(s)); got != s || !ok {
					t.Errorf("Get of the Put of %#v = %#v, %v", s, got, ok)
				}
			}
		}
	}
	for _, n := range []int{65536 + 1, 65536 + 56, 1<<20 + 2} {
		checkPut(t, Sector{Epoch: 5, Index: 6, Payload: text(n)})
	}
	checkPut(t, Sector{Epoch: 5, Payload: strings.Repeat("é", 28)}) // bytes count, not runes
	checkPut(t, Sector{Epoch: 5, Payload: strings.Repeat("é", 29)})
}

// samples are sectors of several sorts.
func samples() []string {
	return []string{
		encoded(Sector{Epoch: 1, Payload: "a"}),
		encoded(Sector{Epoch: 0x01020304, Index: 0x0506, Fresh: true, Payload: text(20)}),
		encoded(Sector{Epoch: 256, Index: 255, Payload: text(55)}),
		encoded(Sector{Epoch: 4294967295, Index: 65535, Fresh: true, Payload: text(56)}),
		encoded(Sector{Epoch: 1 << 24, Index: 1, Fresh: true, Payload: zeros(30)}),
	}
}

// P1301, Get: any one byte turned to any other; in the mark and the length, together with any byte behind the payload.
func TestGetEachByte(t *testing.T) {
	for _, s := range samples() {
		for at := range s {
			for c := range 256 {
				b := []byte(s)
				b[at] = byte(c)
				checkGet(t, string(b))
				b[7] = byte(at)
				checkGet(t, string(b))
				b[6] = byte(at)
				checkGet(t, string(b))
			}
		}
	}
}

// P1301, Get: bytes of another number than a sector's.
func TestGetLength(t *testing.T) {
	for _, s := range samples() {
		for n := range s {
			checkGetNone(t, s[:n])
			checkGetNone(t, s[n+1:])
		}
		for n := range 300 {
			checkGetNone(t, s+zeros(n+1))
			checkGetNone(t, zeros(n+1)+s)
		}
		checkGetNone(t, s+"x")
		checkGetNone(t, s+s)
		checkGetNone(t, s+zeros(1<<20))
	}
}

// P1301, Get: bytes that are no sector, many of them.
func TestGetNone(t *testing.T) {
	for n := range 130 {
		for c := range 256 {
			checkGet(t, strings.Repeat(string([]byte{byte(c)}), n))
		}
		checkGetNone(t, zeros(n))
	}
	next := numbers(3)
	for range 50000 {
		b := make([]byte, 64)
		for i := range b {
			b[i] = byte(next(256) * next(2))
		}
		b[6] = byte(next(4))
		b[7] = byte(next(60))
		checkGet(t, string(b))
		clear(b[8+min(b[7], 56):])
		checkGet(t, string(b))
	}
}

// P1301, Batch: the sectors as they are written out; only the first one is Fresh.
func TestBatchKnown(t *testing.T) {
	a, b := strings.Repeat("a", 57), strings.Repeat("b", 300)
	got, ok := Batch(258, 65528, a, b)
	h := "\x00\x00\x01\x02\xff"
	want := []string{
		h + "\xf8\x02\x38\x00\x39" + a[:54],
		h + "\xf9\x01\x38" + a[54:] + "\x01\x2c" + b[:51],
		h + "\xfa\x01\x38" + b[:56],
		h + "\xfb\x01\x38" + b[:56],
		h + "\xfc\x01\x38" + b[:56],
		h + "\xfd\x01\x38" + b[:56],
		h + "\xfe\x01\x19" + b[:25] + zeros(31),
	}
	if !slices.Equal(got, want) || !ok {
		t.Errorf("Batch = %s%v, want %s", show(got), ok, show(want))
	}
}

// P1301, Batch and Count: one record of each length, and of the lengths near the greatest.
func TestBatchLengths(t *testing.T) {
	for n := range 1500 {
		checkBatch(t, 3, 4, text(n))
		checkBatch(t, 3, 4, text(n), "b")
		checkBatch(t, 3, 4, "a", text(n))
		checkBatch(t, 3, 4, text(n), text(n))
	}
	for _, n := range []int{65533, 65534, 65535, 65536, 65537, 65536 + 56, 131072, 1 << 20} {
		checkBatch(t, 3, 4, text(n))
		checkBatch(t, 3, 4, "a", text(n), "b")
		checkBatch(t, 3, 4, zeros(n), text(n))
	}
	checkBatch(t, 3, 4, strings.Repeat("é", 32767)) // bytes count, not runes
	checkBatch(t, 3, 4, strings.Repeat("é", 32768))
}

// P1301, Count: one sector more as soon as the stream needs it.
func TestCountEdges(t *testing.T) {
	for n, want := range map[int]int{1: 1, 53: 1, 54: 1, 55: 2, 56: 2, 110: 2, 111: 3, 65535: 1171, 65536: 0, 0: 0} {
		checkCount(t, want, text(n))
	}
	checkCount(t, 1, texts(26, 26)...)
	checkCount(t, 2, texts(26, 27)...)
	checkCount(t, 2, texts(54, 54)...)
	checkCount(t, 0)
}

// P1301, Batch and Count: lists of each number of records, and one record in them that may not be, wherever it is.
func TestBatchLists(t *testing.T) {
	for n := range 200 {
		l := make([]string, n)
		for i := range l {
			l[i] = text(1 + i*13%40)
		}
		checkBatch(t, 9, 0, l...)
		checkBatch(t, 9, 0, slices.Repeat([]string{"x"}, n)...)
		if n > 30 {
			continue
		}
		for i := range l {
			for _, wrong := range []string{"", text(65536), text(65536 + 20)} {
				bad := slices.Clone(l)
				bad[i] = wrong
				checkBatchNone(t, 9, 0, bad...)
				checkCount(t, 0, bad...)
			}
			good := slices.Clone(l)
			good[i] = text(65535)
			checkBatch(t, 9, 0, good...)
		}
	}
	checkBatchNone(t, 9, 0)
	checkBatchNone(t, 0, -1)
}

// P1301, Batch: each epoch and each index of all sorts, for batches of several sectors.
func TestBatchPlace(t *testing.T) {
	lists := [][]string{texts(3), texts(54), texts(55), texts(100, 1, 60), texts(56*9 - 2), {}, {""}}
	for _, l := range lists {
		for _, n := range wide() {
			checkBatch(t, n, 5, l...)
			checkBatch(t, 5, n, l...)
			checkBatch(t, n, n, l...)
		}
		for n := 65500; n < 65600; n++ {
			checkBatch(t, 1, n, l...)
		}
	}
}

// P1301, Batch and Count: as many sectors as there are indices, and more; Count tells the number of those, too.
func TestBatchLong(t *testing.T) {
	l := slices.Repeat([]string{text(54)}, 65536)
	for _, index := range []int{0, 1, 2, 65535} {
		for _, n := range []int{65534, 65535, 65536} {
			got, ok := Batch(1, index, l[:n]...)
			if want := index+n <= 65536; ok != want || want && len(got) != n || !want && len(got) > 0 {
				t.Errorf("Batch of %d sectors from index %d on = %d sectors, %v", n, index, len(got), ok)
			}
		}
	}
	checkBatchNone(t, 1, 0, append(l, "a")...)
	checkCount(t, 65537, append(l, "a")...)
	vast := slices.Repeat([]string{text(65535)}, 32767)
	checkCount(t, (32767*65537+55)/56, vast...)
	checkBatchNone(t, 1, 0, vast...)
	checkCount(t, 0, append(vast, "")...)
}

// P1301 and P1302: what Batch lays out, Scan reads, whether its records fill their sectors or not.
func TestScanBatch(t *testing.T) {
	for n := 1; n < 400; n++ {
		for _, l := range [][]string{texts(n), texts(1, n), texts(n, 1), texts(n, n, n), {zeros(n), text(n)}, {text(n), strings.Repeat("\xff", n), "\x00\x00"}} {
			b := checkBatch(t, 7, 0, l...)
			checkScanned(t, b, l, len(b), 7)
			checkScanned(t, append(b, zeros(64), zeros(64)), l, len(b), 7)
		}
	}
	all := texts(65535, 65534, 1, 40000)
	b := checkBatch(t, 4294967295, 0, all...)
	checkScanned(t, b, all, len(b), 4294967295)
	last := len(b) - 1
	checkScanned(t, b[:last], all[:3], (65537+65536+3+55)/56, 4294967295)
}

// P1302: several batches, one behind the other, of one epoch and of others.
func TestScanBatches(t *testing.T) {
	next := numbers(5)
	for range 3000 {
		var log, all []string
		epoch := 1
		for range 1 + next(6) {
			epoch += next(3) * next(2)
			l := texts(1+next(150), 1+next(60), 1+next(100))[next(3):]
			log = append(log, checkBatch(t, epoch, len(log), l...)...)
			all = append(all, l...)
		}
		checkScanned(t, log, all, len(log), epoch)
		cut := next(len(log) + 1)
		checkScan(t, log[:cut]...)
		checkScan(t, log[cut:]...)
	}
}

// P1302: sectors are read as long as Get accepts them, whatever is behind the first that it refuses.
func TestScanRefused(t *testing.T) {
	log := raw(3, "\x00\x01a", "\x00\x01b", "\x00\x03c", "+de\x00\x01f", "\x00\x01g")
	want := []string{"a", "b", "cde", "f", "g"}
	checkScanned(t, log, want, 5, 3)
	reads := []int{0, 1, 2, 2, 4} // records of the sectors before each
	nexts := []int{0, 1, 2, 2, 4}
	for at := range log {
		for _, b := range []string{"", "x", zeros(64), log[at] + "\x00", log[at][:63], log[at][1:], zeros(4) + log[at][4:], log[at][:6] + "\x00" + log[at][7:], log[at][:7] + "\x39" + log[at][8:], log[at][:63] + "x"} {
			l := slices.Clone(log)
			l[at] = b
			epoch := 3
			if at == 0 {
				epoch = 0
			}
			checkScanned(t, l, want[:reads[at]], nexts[at], epoch)
			checkScan(t, l...)
		}
	}
}

// P1302: the Index of a sector is its position.
func TestScanIndex(t *testing.T) {
	log := raw(3, "\x00\x01a", "\x00\x01b", "\x00\x01c", "\x00\x01d")
	want := []string{"a", "b", "c", "d"}
	for at := range log {
		for _, n := range []int{0, 1, 2, 3, 4, 5, 255, 256, 256 + at, 512 + at, 65535, 65280 + at} {
			l := slices.Clone(log)
			l[at] = encoded(Sector{Epoch: 3, Index: n, Fresh: true, Payload: "\x00\x01" + want[at]})
			switch {
			case n == at:
				checkScanned(t, l, want, 4, 3)
			case at == 0:
				checkScanned(t, l, nil, 0, 0)
			default:
				checkScanned(t, l, want[:at], at, 3)
			}
		}
	}
	checkScanned(t, log[1:], nil, 0, 0)
	checkScanned(t, []string{log[0], log[2]}, []string{"a"}, 1, 3)
	checkScanned(t, []string{log[0], log[0]}, []string{"a"}, 1, 3)
}

// P1302: each pair and triple of epochs, with sectors that are Fresh and that are not.
func TestScanEpochs(t *testing.T) {
	epochs := []int{1, 2, 3, 255, 256, 65536, 1 << 31, 4294967295}
	payloads := []string{"\x00\x01a\x00\x04", "bc\x00\x01d\x00\x01e", "\x00\x01f\x00\x02gh"}
	for mask := range 8 {
		for _, a := range epochs {
			for _, b := range epochs {
				for _, c := range epochs {
					var l []string
					for i, e := range []int{a, b, c} {
						l = append(l, encoded(Sector{Epoch: e, Index: i, Fresh: mask>>i&1 == 1, Payload: payloads[i]}))
					}
					checkScan(t, l...)
					checkScan(t, l[:2]...)
					checkScan(t, l[:1]...)
				}
			}
		}
	}
	one := func(epoch, index int, isFresh bool, payload string) string {
		return encoded(Sector{Epoch: epoch, Index: index, Fresh: isFresh, Payload: payload})
	}
	a := one(2, 0, true, "\x00\x01a")
	checkScanned(t, []string{one(2, 0, false, "\x00\x01a")}, nil, 0, 0)
	checkScanned(t, []string{a, one(3, 1, true, "\x00\x01b")}, []string{"a", "b"}, 2, 3)
	checkScanned(t, []string{a, one(2, 1, true, "\x00\x01b")}, []string{"a", "b"}, 2, 2)
	checkScanned(t, []string{a, one(2, 1, false, "\x00\x01b")}, []string{"a", "b"}, 2, 2)
	checkScanned(t, []string{a, one(3, 1, false, "\x00\x01b"), one(3, 2, true, "\x00\x01c")}, []string{"a"}, 1, 2)
	checkScanned(t, []string{a, one(1, 1, true, "\x00\x01b"), one(2, 2, true, "\x00\x01c")}, []string{"a"}, 1, 2)
	checkScanned(t, []string{a, one(1, 1, false, "\x00\x01b"), one(3, 2, true, "\x00\x01c")}, []string{"a"}, 1, 2)
	// The previous sector counts, not the last one with a record, nor the last Fresh one.
	checkScanned(t, []string{a, one(5, 1, true, "\x00\x09b"), one(4, 2, true, "\x00\x01c")}, []string{"a"}, 1, 2)
	checkScanned(t, []string{a, one(5, 1, true, "\x00\x00b"), one(5, 2, false, "\x00\x01c"), one(2, 3, true, "\x00\x01d")}, []string{"a"}, 1, 2)
	checkScanned(t, []string{a, one(5, 1, true, "\x00\x02b"), one(5, 2, false, "c\x00\x01")}, []string{"a", "bc"}, 3, 5)
}

// P1302: a record that is not complete at the end of a run is ignored, and the next run begins anew.
func TestScanIncomplete(t *testing.T) {
	for _, c := range []struct {
		log, records []string
		next         int
	}{
		{raw(2, "\x00"), nil, 0},
		{raw(2, "\x00\x01"), nil, 0},
		{raw(2, "\x01"), nil, 0},
		{raw(2, "\x00\x02a"), nil, 0},
		{raw(2, "\x01\x00a"), nil, 0},
		{raw(2, "\x00\x02a", "\x00\x01b"), []string{"b"}, 2},
		{raw(2, "\x00\x02a", "+b\x00\x01"), []string{"ab"}, 2},
		{raw(2, "\x00\x01a\x00", "\x00\x01b"), []string{"a", "b"}, 2},
		{raw(2, "\x00\x01a\x00", "\x01b"), []string{"a"}, 1},
		{raw(2, "\x00\x01a\x00", "+\x01b"), []string{"a", "b"}, 2},
		{raw(2, "\x00\x01a\x00\x03b", "\x00\x02c", "+d"), []string{"a", "cd"}, 3},
		{raw(2, "\x00\x01a", "\x00\x03b", "+c"), []string{"a"}, 1},
		{raw(2, "\x00\x01a", "\x00\x03b", "+c", "+d", "+\x00"), []string{"a", "bcd"}, 4},
		{raw(2, "\x00\x01a", "\x00\x01b\x00\x02", "+c", "\x00"), []string{"a", "b"}, 2},
	} {
		epoch := 2
		if c.records == nil {
			epoch = 0
		}
		checkScanned(t, c.log, c.records, c.next, epoch)
		checkScan(t, c.log...)
	}
}

// P1302: a length of 0 ends a stream, up to the next Fresh sector.
func TestScanZeroLength(t *testing.T) {
	for _, c := range []struct {
		log, records []string
		next         int
	}{
		{raw(2, "\x00\x00\x00\x01a"), nil, 0},
		{raw(2, "\x00\x00", "+\x00\x01a"), nil, 0},
		{raw(2, "\x00", "+\x00", "+\x00\x01a"), nil, 0},
		{raw(2, "\x00\x00", "\x00\x01a"), []string{"a"}, 2},
		{raw(2, "\x00\x01a\x00\x00\x00\x01b", "+\x00\x01c", "+\x00\x01d"), []string{"a"}, 1},
		{raw(2, "\x00\x01a\x00\x00\x00\x01b", "+\x00\x01c", "\x00\x01d"), []string{"a", "d"}, 3},
		{raw(2, "\x00\x01a\x00", "+\x00\x00\x01c", "\x00\x01d"), []string{"a", "d"}, 3},
		{raw(2, "\x00\x01a\x00\x00\x01", "+\x00\x01c", "+\x00\x00\x00\x00\x01d"), []string{"a"}, 1},
		{raw(2, "\x00\x02\x00\x00\x00\x01\x00"), []string{"\x00\x00", "\x00"}, 1},
		{raw(2, "\x00\x01a"+zeros(50), "+\x00\x01b"), []string{"a"}, 1},
	} {
		epoch := 2
		if c.records == nil {
			epoch = 0
		}
		checkScanned(t, c.log, c.records, c.next, epoch)
		checkScan(t, c.log...)
	}
	l := raw(2, "\x00\x01a\x00\x00", "+x", "\x00\x00y", "+\x00\x01z") // the sectors behind an end count as others do
	checkScanned(t, append(l, encoded(Sector{Epoch: 3, Index: 4, Fresh: true, Payload: "\x00\x01b"})), []string{"a", "b"}, 5, 3)
	checkScanned(t, append(l, encoded(Sector{Epoch: 1, Index: 4, Fresh: true, Payload: "\x00\x01b"})), []string{"a"}, 1, 2)
	checkScanned(t, append(l, encoded(Sector{Epoch: 3, Index: 4, Payload: "\x00\x01b"})), []string{"a"}, 1, 2)
}

// P1302: the position and the epoch are those of the sector in which the last complete record ends, which may be long before the end.
func TestScanEnd(t *testing.T) {
	a := checkBatch(t, 2, 0, "a", text(110))
	last := len(a)
	b := checkBatch(t, 9, last, text(300))
	log := append(slices.Clone(a), b...)
	for n := range len(log) + 1 {
		switch {
		case n == len(log):
			checkScanned(t, log, []string{"a", text(110), text(300)}, n, 9)
		case n >= last:
			checkScanned(t, log[:n], []string{"a", text(110)}, last, 2)
		case n > 0:
			checkScanned(t, log[:n], []string{"a"}, 1, 2)
		}
	}
	full := checkBatch(t, 2, 0, texts(54, 110)...) // records that end with their sectors
	checkScanned(t, full, texts(54, 110), 3, 2)
	checkScanned(t, full[:2], texts(54), 1, 2)
}

// P1302: a record of one byte in each sector, in many, as a stream and as batches of their own.
func TestScanMany(t *testing.T) {
	var log []string
	for i := range 65536 {
		log = append(log, encoded(Sector{Epoch: 1 + i/100, Index: i, Fresh: i%100 == 0, Payload: "\x00\x01x"}))
	}
	checkScanned(t, log, slices.Repeat([]string{"x"}, 65536), 65536, 656)
	log = append(log, encoded(Sector{Epoch: 700, Index: 0, Fresh: true, Payload: "\x00\x01x"})) // no Index is its position
	checkScanned(t, log, slices.Repeat([]string{"x"}, 65536), 65536, 656)
}

// P1302: logs of sectors of all sorts, each of them somewhat wrong somewhere.
func TestScanAny(t *testing.T) {
	next := numbers(17)
	for range 60000 {
		var l []string
		epoch := 1 + next(3)
		for i := range next(9) {
			n := 1 + next(1+next(56))
			p := make([]byte, n)
			for k := range p {
				p[k] = byte(next(4) * next(2) * next(3))
			}
			s := Sector{Epoch: epoch, Index: i, Fresh: i == 0 || next(3) == 0, Payload: string(p)}
			if s.Fresh && next(4) == 0 {
				s.Epoch += next(3)
			}
			epoch = s.Epoch
			switch next(60) {
			case 0:
				s.Index += next(3) - 1
			case 1:
				s.Epoch += next(3) - 1
			case 2:
				s.Fresh = !s.Fresh
			}
			b := encoded(s)
			if next(60) == 0 {
				b = b[:63] + "\x01"
			}
			l = append(l, b)
		}
		checkScan(t, l...)
	}
}

// checkFirst holds what Scan reads behind the records before against the first ones of a batch.
func checkFirst(t *testing.T, log, before, batch []string) {
	t.Helper()
	got := checkScan(t, log...)
	n := len(got) - len(before)
	if n < 0 || n > len(batch) || !slices.Equal(got, slices.Concat(before, batch[:n])) {
		t.Errorf("Scan of %s= %s, want %sand first ones of %s", show(log), show(got), show(before), show(batch))
	}
}

// P1303: of each batch, any sectors are missing; where they were to be is nothing, or what an earlier epoch left.
func TestLostSectors(t *testing.T) {
	before := []string{"before"}
	start := checkBatch(t, 2, 0, before...)
	for _, batch := range [][]string{
		texts(5), texts(60), texts(54, 54, 54, 54), texts(300), texts(10, 100, 3, 150, 20), texts(1, 1, 53, 55, 57, 54),
		{zeros(200), "a", zeros(60)}, {strings.Repeat("\x00\x01", 90), "b", strings.Repeat("\x00\x02", 50)},
	} {
		written := checkBatch(t, 3, 1, batch...)
		n := len(written)
		olds := [][]string{
			slices.Repeat([]string{zeros(64)}, n),
			checkBatch(t, 2, 1, text(56*n)),                              // of the epoch before: a record that never was complete
			checkBatch(t, 1, 1, slices.Repeat([]string{text(54)}, n)...), // of one that is longer ago
		}
		for mask := range 1 << n {
			for _, old := range olds {
				log := slices.Clone(start)
				for i := range n {
					if mask>>i&1 == 1 {
						log = append(log, written[i])
					} else {
						log = append(log, old[i])
					}
				}
				checkFirst(t, log, before, batch)
				checkFirst(t, append(log, zeros(64), written[0]), before, batch)
			}
		}
	}
}

// P1303: the first sectors of a batch alone are there: all records that they contain as a whole are read, and no other.
func TestFirstSectors(t *testing.T) {
	batch := texts(10, 100, 3, 150, 20, 54, 52, 1)
	written := checkBatch(t, 3, 0, batch...)
	for n := range len(written) + 1 {
		size, count := 0, 0
		for _, r := range batch {
			size += 2 + len(r)
			if size <= 56*n {
				count++
			}
		}
		got, _, _ := Scan(written[:n]...)
		if !slices.Equal(got, batch[:count]) {
			t.Errorf("Scan of %d of %d sectors = %s, want %d records", n, len(written), show(got), count)
		}
	}
}

// P1303: one epoch after the other goes on where Scan tells, each of them with a last batch of which any sectors are lost. No record that was read is ever lost again.
func TestEpochs(t *testing.T) {
	next := numbers(23)
	for range 300 {
		log := slices.Repeat([]string{zeros(64)}, 200)
		var all, lost []string // what is there for good, and what may be there behind it, as far as it goes
		for epoch := 1; epoch < 12; epoch++ {
			records, at, last := Scan(log...)
			n := len(records) - len(all)
			if n < 0 || n > len(lost) || !slices.Equal(records, slices.Concat(all, lost[:n])) || last >= epoch {
				t.Fatalf("epoch %d: Scan = %s%d, %d, want %sand first ones of %s", epoch, show(records), at, last, show(all), show(lost))
			}
			all, lost = records, nil
			for range next(3) {
				l := texts(1+next(70), 1+next(90))[next(2):]
				at += copy(log[at:], checkBatch(t, epoch, at, l...))
				all = append(all, l...)
			}
			lost = texts(1+next(40), 1+next(300), 1+next(80), 1+next(70))[next(4):]
			for i, b := range checkBatch(t, epoch, at, lost...) {
				if next(3) > 0 {
					log[at+i] = b
				}
			}
		}
	}
}

// DOC.md, rule 2: the functions do not modify their lists, nor what lies behind them.
func TestKeeps(t *testing.T) {
	records := texts(3, 60, 8, 100)
	before := slices.Clone(records)
	Batch(1, 0, records[:2]...)
	Count(records[:2]...)
	Batch(1, 0, records...)
	Batch(0, 0, records...)
	if !slices.Equal(records, before) {
		t.Errorf("the records became %s", show(records))
	}
	log, _ := Batch(1, 0, records...)
	log = append(log, zeros(64), "x")
	before = slices.Clone(log)
	Scan(log[:2]...)
	Scan(log...)
	if !slices.Equal(log, before) {
		t.Errorf("the sectors became %s", show(log))
	}
}

// overlap reports whether two texts share memory.
func overlap(a, b string) bool {
	x, y := uintptr(unsafe.Pointer(unsafe.StringData(a))), uintptr(unsafe.Pointer(unsafe.StringData(b)))
	return len(a) > 0 && len(b) > 0 && x < y+uintptr(len(b)) && y < x+uintptr(len(a))
}

// checkNew holds each result against the arguments and the results before it.
func checkNew(t *testing.T, arguments []string, results ...string) {
	t.Helper()
	for i, s := range results {
		for _, o := range slices.Concat(arguments, results[:i]) {
			if overlap(s, o) {
				t.Errorf("result %d, %d bytes %.20q, shares memory", i, len(s), s)
			}
		}
	}
}

// DOC.md, rule 2: results share no memory with arguments or with later results.
func TestNewMemory(t *testing.T) {
	for _, n := range []int{2, 30, 56} {
		s := Sector{Epoch: 1, Fresh: true, Payload: text(n)}
		one, _ := Put(s)
		two, _ := Put(s)
		checkNew(t, []string{s.Payload}, one, two)
		x, _ := Get(one)
		y, _ := Get(one)
		checkNew(t, []string{one}, x.Payload, y.Payload)
	}
	records := texts(5, 200, 2, 54, 110)
	log, _ := Batch(1, 0, records...)
	again, _ := Batch(1, 0, records...)
	checkNew(t, records, slices.Concat(log, again)...)
	one, _, _ := Scan(log...)
	two, _, _ := Scan(log...)
	checkNew(t, log, slices.Concat(one, two)...)
	clear(again)
	_ = append(again, "x")
	clear(two)
	_ = append(two, "x")
	if r, _, _ := Scan(log...); !slices.Equal(one, records) || !slices.Equal(r, records) {
		t.Errorf("the records became %s, and %s", show(one), show(r))
	}
}

// The numbers of the limits, as the other tests have them.
func TestLimits(t *testing.T) {
	got := []int{api.Sector, api.Payload}
	if want := []int{64, 56}; !slices.Equal(got, want) {
		t.Errorf("the limits are %v, want %v", got, want)
	}
}

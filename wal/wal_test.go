package wal

import (
	"encoding/binary"
	"fmt"
	"math"
	"reflect"
	"slices"
	"strings"
	"testing"
	"unsafe"

	"honeycomb/api"
	"honeycomb/disk"
	"honeycomb/record"
)

// numbers is a row of numbers that look like chance and are always the same.
func numbers(seed uint32) func(below int) int {
	return func(below int) int {
		seed = seed*1664525 + 1013904223
		return int(seed>>8) % below
	}
}

// text is n bytes that all differ from their neighbours, so that one that moved is seen.
func text(n int) string {
	b := make([]byte, n)
	for i := range b {
		b[i] = byte(i*7 + 65)
	}
	return string(b)
}

func zeros(n int) string { return strings.Repeat("\x00", n) }

// wide are numbers of all sorts, among them some whose sum with another wraps round.
func wide() []int {
	l := []int{math.MaxInt, math.MaxInt - 1, math.MaxInt - 64, math.MinInt, math.MinInt + 1, math.MinInt + 64}
	for _, n := range []int{0, 64, 80, 1 << 8, 4000, 10000, 1 << 16, 1 << 31, 1 << 32, 1<<32 + 64, 1 << 40} {
		for d := -9; d <= 9; d++ {
			l = append(l, n+d, -n+d)
		}
	}
	return l
}

// commit is a record of 32 bytes.
func commit(tx int) api.Record { return api.Record{Kind: api.Commit, Tx: tx} }

// long is a record of n bytes, of which there are at least 39: those of a commit, and of a patch.
func long(tx, n int) api.Record {
	r := api.Record{Kind: api.Update, Tx: tx}
	for n -= 32; n > 6; n -= 6 + len(r.Patches[len(r.Patches)-1].Bytes) {
		size := min(n-6, 256)
		if rest := n - 6 - size; rest > 0 && rest < 7 { // too few for one more patch
			size -= 7
		}
		r.Patches = append(r.Patches, api.Patch{Page: tx % 64, Bytes: text(size)})
	}
	return r
}

// full is a record that has all that a record may have.
func full() api.Record {
	return api.Record{
		Kind: api.Update, Tx: 7, Prev: 70000, Next: 4294967295, Key: text(255), Had: true,
		Old:     api.Cell{Key: text(16), Value: text(40)},
		Pages:   []int{3, 65535, 0},
		Patches: []api.Patch{{Page: 63, At: 1, Bytes: text(255)}, {Page: 2, At: 255, Bytes: "z"}},
		Txs:     []api.TxInfo{{Tx: 1, Last: 2, Committed: true, Pages: []int{9, 8}}, {Tx: 65535, Last: 4294967295}},
		Dirty:   []api.DirtyInfo{{Page: 5, Lsn: 6}, {Page: 65535, Lsn: 4294967295}},
	}
}

func bytesOf(t *testing.T, r api.Record) string {
	t.Helper()
	b, ok := record.Put(r)
	if !ok {
		t.Fatalf("%#v is no record", r)
	}
	return b
}

// sizes are the lengths of some records' bytes.
func sizes(t *testing.T, l []api.Record) []int {
	t.Helper()
	var n []int
	for _, r := range l {
		n = append(n, len(bytesOf(t, r)))
	}
	return n
}

// sectorsFor is how many sectors a batch of records of these sizes fills.
func sectorsFor(sizes ...int) int {
	n := 0
	for _, size := range sizes {
		n += 2 + size
	}
	return (n + 55) / 56
}

// sectorsOf is the batch of some records' bytes, in an epoch, from a position on.
func sectorsOf(epoch, at int, records ...string) []string {
	stream := ""
	for _, r := range records {
		stream += string(binary.BigEndian.AppendUint16(nil, uint16(len(r)))) + r
	}
	var l []string
	for i := 0; i < len(stream); i += 56 {
		b := make([]byte, 64)
		binary.BigEndian.PutUint32(b, uint32(epoch))
		binary.BigEndian.PutUint16(b[4:], uint16(at+i/56))
		b[6] = 1
		if i == 0 {
			b[6] = 2
		}
		b[7] = byte(copy(b[8:], stream[i:min(i+56, len(stream))]))
		l = append(l, string(b))
	}
	return l
}

// write lays sectors on a disk, from one on.
func write(t *testing.T, d *disk.Disk, first int, sectors ...string) {
	t.Helper()
	for i, b := range sectors {
		if e := d.Write(first+i, b); e != api.OK {
			t.Fatalf("Write(%d) = %d", first+i, e)
		}
	}
	d.Sync()
}

// contentsOf are the sectors of a disk.
func contentsOf(t *testing.T, d *disk.Disk) []string {
	t.Helper()
	var l []string
	for n := range d.Sectors() {
		b, e := d.Read(n)
		if e != api.OK {
			t.Fatalf("Read(%d) = %d", n, e)
		}
		l = append(l, b)
	}
	return l
}

// marked is a disk of which each sector tells where it is.
func marked(t *testing.T, sectors int) *disk.Disk {
	t.Helper()
	d := disk.New(sectors)
	for n := range sectors {
		write(t, d, n, (fmt.Sprintf("sector %d", n) + strings.Repeat(".", 64))[:64])
	}
	return d
}

// kill stops the machine of a disk at once.
func kill(d *disk.Disk) {
	d.Stop(0)
	d.Write(0, zeros(64))
}

// open opens a log that is to be opened without an error.
func open(t *testing.T, d *disk.Disk, first, sectors, epoch int) *Log {
	t.Helper()
	l, e := Open(d, first, sectors, epoch)
	if e != api.OK || l == nil {
		t.Fatalf("Open(%d, %d, %d) = %v, %d", first, sectors, epoch, l, e)
	}
	return l
}

// add appends records that are to be appended without an error.
func add(t *testing.T, l *Log, records ...api.Record) {
	t.Helper()
	for _, r := range records {
		before := l.Last()
		if lsn, e := l.Append(r); lsn != before+1 || e != api.OK {
			t.Fatalf("Append behind %d = %d, %d", before, lsn, e)
		}
	}
}

func checkErrno(t *testing.T, what string, got, want api.Errno) {
	t.Helper()
	if got != want {
		t.Errorf("%s = %d, want %d", what, got, want)
	}
}

func checkNotOpened(t *testing.T, d *disk.Disk, first, sectors, epoch int, want api.Errno) {
	t.Helper()
	if l, e := Open(d, first, sectors, epoch); l != nil || e != want {
		t.Errorf("Open(%d, %d, %d) = %v, %d, want none, %d", first, sectors, epoch, l, e, want)
	}
}

func checkRefused(t *testing.T, l *Log, r api.Record, want api.Errno) {
	t.Helper()
	if lsn, e := l.Append(r); lsn != 0 || e != want {
		t.Errorf("Append of %d patches behind %d = %d, %d, want 0, %d", len(r.Patches), l.Last(), lsn, e, want)
	}
}

// checkLog holds all that a log tells against what it is to tell.
func checkLog(t *testing.T, l *Log, records []api.Record, durable, left, epoch int) {
	t.Helper()
	got := []int{l.Last(), l.Durable(), l.Left(), l.Epoch()}
	if want := []int{len(records), durable, left, epoch}; !slices.Equal(got, want) {
		t.Errorf("Last, Durable, Left, Epoch = %d, want %d", got, want)
	}
	for i, r := range records {
		if x, ok := l.At(i + 1); !reflect.DeepEqual(x, r) || !ok {
			t.Errorf("At(%d) = %#v, %v, want %#v", i+1, x, ok, r)
		}
	}
	for _, lsn := range []int{0, -1, len(records) + 1, len(records) + 2, math.MaxInt, math.MinInt} {
		if x, ok := l.At(lsn); !reflect.DeepEqual(x, api.Record{}) || ok {
			t.Errorf("At(%d) of %d records = %#v, %v, want none", lsn, len(records), x, ok)
		}
	}
}

// checkDisk holds the sectors of a disk against those before it, with these in place of those from first on.
func checkDisk(t *testing.T, d *disk.Disk, before []string, first int, now ...string) {
	t.Helper()
	want := slices.Clone(before)
	copy(want[first:], now)
	for n, b := range contentsOf(t, d) {
		if b != want[n] {
			t.Errorf("sector %d is %q, want %q", n, b, want[n])
		}
	}
}

// The chapter's examples.
func TestExamples(t *testing.T) {
	l := open(t, disk.New(80), 2, 64, 1)
	add(t, l, commit(1), commit(2))
	checkErrno(t, "Flush", l.Flush(), api.OK)
	checkLog(t, l, []api.Record{commit(1), commit(2)}, 2, 62, 1)
	checkRefused(t, l, api.Record{}, api.ErrArg)
}

// P1401, Open and Flush: the sectors of a log as they are written out, among those of others.
func TestKnownSectors(t *testing.T) {
	d := marked(t, 20)
	before := contentsOf(t, d)
	l := open(t, d, 5, 8, 0x01020304)
	checkLog(t, l, nil, 0, 8, 0x01020304)
	add(t, l, commit(0x0506), commit(7))
	checkErrno(t, "Flush", l.Flush(), api.OK)
	one := "\x00\x20" + "\x00\x04\x05\x06" + zeros(28)
	two := "\x00\x20" + "\x00\x04\x00\x07" + zeros(28)
	checkDisk(t, d, before, 5,
		"\x01\x02\x03\x04\x00\x00\x02\x38"+one+two[:22],
		"\x01\x02\x03\x04\x00\x01\x01\x0c"+two[22:]+zeros(44))
	add(t, l, commit(8))
	checkErrno(t, "To", l.To(3), api.OK)
	before = contentsOf(t, d)
	checkDisk(t, d, before, 7, "\x01\x02\x03\x04\x00\x02\x02\x22"+"\x00\x20"+"\x00\x04\x00\x08"+zeros(28)+zeros(22))
	checkLog(t, l, []api.Record{commit(0x0506), commit(7), commit(8)}, 3, 5, 0x01020304)
	checkLog(t, open(t, d, 5, 8, 0x01020305), []api.Record{commit(0x0506), commit(7), commit(8)}, 3, 5, 0x01020305)
}

// mayOpen is what Open is to accept, said the other way round: all that may be wrong.
func mayOpen(first, sectors, epoch, all int) bool {
	return !(sectors < 1 || sectors > 4000 || first < 0 || first > all || first+sectors > all || epoch < 1 || epoch > 4294967295)
}

// P1401, Open: where a log may be, and in which epochs, with numbers of all sorts.
func TestOpenNumbers(t *testing.T) {
	for _, all := range []int{1, 80, 4001, 10000} {
		d := disk.New(all)
		check := func(first, sectors, epoch int) {
			if sectors > 100 && sectors < 3900 { // they take long, and are as others
				return
			}
			if !mayOpen(first, sectors, epoch, all) {
				checkNotOpened(t, d, first, sectors, epoch, api.ErrArg)
				return
			}
			checkLog(t, open(t, d, first, sectors, epoch), nil, 0, sectors, epoch)
		}
		for _, n := range wide() {
			for _, m := range wide() {
				check(n, m, 1)
			}
			check(0, 1, n)
			check(-1, 1, n)
			check(0, 0, n)
			check(n, 1, 0)
			check(0, n, 1<<32)
		}
		for n := range all {
			check(n, 1, 1)
			check(n, all-n, 1)
			check(n, all-n+1, 1)
		}
	}
}

// P1401, Open: no disk, and disks that are none.
func TestOpenNoDisk(t *testing.T) {
	for _, d := range []*disk.Disk{nil, {}} {
		checkNotOpened(t, d, 0, 1, 1, api.ErrArg)
		checkNotOpened(t, d, 0, 0, 1, api.ErrArg)
		checkNotOpened(t, d, 0, 64, 0, api.ErrArg)
	}
}

// P1401, Open: the errors in their order.
func TestOpenErrorsInOrder(t *testing.T) {
	d := disk.New(80)
	write(t, d, 2, sectorsOf(3, 0, "no record")...)
	checkNotOpened(t, d, 2, 64, 4, api.ErrForm)
	checkNotOpened(t, d, 2, 64, 0, api.ErrArg)
	checkNotOpened(t, d, 2, 79, 4, api.ErrArg)
	kill(d)
	checkNotOpened(t, d, 2, 64, 4, api.ErrDead)
	checkNotOpened(t, d, 0, 1, 4294967295, api.ErrDead)
	checkNotOpened(t, d, 2, 64, 0, api.ErrArg)
	checkNotOpened(t, d, 2, 79, 4, api.ErrArg)
	checkNotOpened(t, d, 2, 0, 4, api.ErrArg)
	checkNotOpened(t, d, -1, 64, 4, api.ErrArg)
	checkNotOpened(t, d, 2, 64, 1<<32, api.ErrArg)
	if d.Crash() != 0 || d.Dead() {
		t.Error("the machine doesn't run")
	}
	checkNotOpened(t, d, 2, 64, 4, api.ErrForm)
}

// P1401, Open: bytes that are no record's, wherever they are, but not where they are ignored.
func TestOpenNoRecord(t *testing.T) {
	good := bytesOf(t, commit(9))
	for _, bad := range []string{"x", good[:31], good + "\x00", good[1:], zeros(32), "\x00\x08" + good[2:], good[:31] + "\x01", text(300), zeros(1000)} {
		for _, records := range [][]string{{bad}, {bad, good}, {good, bad}, {good, bad, good}, {good, good, good, bad}} {
			d := disk.New(80)
			write(t, d, 2, sectorsOf(3, 0, records...)...)
			checkNotOpened(t, d, 2, 64, 4, api.ErrForm)
		}
		d := disk.New(80) // in the epoch before
		old := sectorsOf(3, 0, good, bad)
		write(t, d, 2, slices.Concat(old, sectorsOf(4, len(old), good))...)
		checkNotOpened(t, d, 2, 64, 5, api.ErrForm)
		d = disk.New(80) // behind a log that ends
		write(t, d, 2, slices.Concat(sectorsOf(3, 0, good), []string{zeros(64)}, sectorsOf(3, 2, bad))...)
		checkLog(t, open(t, d, 2, 64, 4), []api.Record{commit(9)}, 1, 63, 4)
		d = disk.New(80) // not complete
		torn := sectorsOf(3, 0, good, bad)
		write(t, d, 2, torn[:1]...)
		if len(good)+len(bad)+4 > 56 {
			checkLog(t, open(t, d, 2, 64, 4), []api.Record{commit(9)}, 1, 63, 4)
		}
	}
}

// P1401, Open: the epoch of the last record must be less than that of the log.
func TestOpenEpochs(t *testing.T) {
	d := disk.New(80)
	one, two := bytesOf(t, commit(1)), bytesOf(t, commit(2))
	write(t, d, 2, slices.Concat(sectorsOf(3, 0, one), sectorsOf(70000, 1, two))...)
	records := []api.Record{commit(1), commit(2)}
	for _, epoch := range []int{1, 2, 3, 4, 4463, 4464, 4465, 65536, 69999, 70000} {
		checkNotOpened(t, d, 2, 64, epoch, api.ErrForm)
	}
	for _, epoch := range []int{70001, 70002, 1 << 31, 4294967295} {
		checkLog(t, open(t, d, 2, 64, epoch), records, 2, 62, epoch)
	}
	write(t, d, 4, sectorsOf(4294967295, 2, one)...)
	checkNotOpened(t, d, 2, 64, 4294967295, api.ErrForm)
	checkNotOpened(t, d, 2, 64, 4294967294, api.ErrForm)
	write(t, d, 4, sectorsOf(70005, 2, text(100))[0]) // of an epoch without a record
	for _, epoch := range []int{70001, 70004, 70005, 70006} {
		checkLog(t, open(t, d, 2, 64, epoch), records, 2, 62, epoch)
	}
	checkNotOpened(t, d, 2, 64, 70000, api.ErrForm)
}

// P1401, Open: just the sectors of the log are read, and the end is behind the last of the records, not behind what else is there.
func TestOpenReads(t *testing.T) {
	d := disk.New(80)
	a, b := long(1, 100), long(2, 200)
	log := slices.Concat(sectorsOf(2, 0, bytesOf(t, a)), sectorsOf(2, 2, bytesOf(t, b), bytesOf(t, a), text(300)))
	write(t, d, 10, log...)
	write(t, d, 10+len(log)-3, zeros(64)) // the last record is not complete
	for sectors := 1; sectors <= 70; sectors++ {
		switch {
		case sectors < 2:
			checkLog(t, open(t, d, 10, sectors, 3), nil, 0, sectors, 3)
		case sectors < 6:
			checkLog(t, open(t, d, 10, sectors, 3), []api.Record{a}, 1, sectors-2, 3)
		case sectors < 8:
			checkLog(t, open(t, d, 10, sectors, 3), []api.Record{a, b}, 2, sectors-6, 3)
		default:
			checkLog(t, open(t, d, 10, sectors, 3), []api.Record{a, b, a}, 3, sectors-8, 3)
		}
	}
	checkLog(t, open(t, d, 9, 64, 3), nil, 0, 64, 3)
	checkLog(t, open(t, d, 11, 64, 3), nil, 0, 64, 3)
	checkLog(t, open(t, d, 70, 10, 3), nil, 0, 10, 3)
}

// P1401, Open: it writes nothing, and makes nothing permanent.
func TestOpenWritesNothing(t *testing.T) {
	d := marked(t, 80)
	write(t, d, 2, sectorsOf(1, 0, bytesOf(t, commit(1)))...)
	before := contentsOf(t, d)
	d.Write(7, zeros(64))
	d.Stop(0)
	open(t, d, 2, 64, 2)
	checkNotOpened(t, d, 2, 64, 1, api.ErrForm)
	if d.Pending() != 1 || d.Dead() {
		t.Errorf("%d writes are pending, want 1", d.Pending())
	}
	d.Crash()
	checkDisk(t, d, before, 0)
}

// P1401, Append: what is no record, each time with the log as it was before.
func TestAppendNoRecord(t *testing.T) {
	l := open(t, disk.New(80), 2, 64, 1)
	add(t, l, commit(1))
	for _, r := range []api.Record{
		{}, {Kind: -1}, {Kind: 8}, {Kind: api.Commit, Tx: -1}, {Kind: api.Commit, Tx: 65536},
		{Kind: api.Commit, Prev: -1}, {Kind: api.Commit, Next: 1 << 32}, {Kind: api.Commit, Key: text(256)},
		{Kind: api.Commit, Old: api.Cell{Key: text(17)}}, {Kind: api.Commit, Pages: make([]int, 65)},
		{Kind: api.Commit, Patches: []api.Patch{{}}}, {Kind: api.Commit, Patches: make([]api.Patch, 41)},
		{Kind: api.Commit, Txs: make([]api.TxInfo, 9)}, {Kind: api.Commit, Dirty: make([]api.DirtyInfo, 65)},
	} {
		checkRefused(t, l, r, api.ErrArg)
		checkLog(t, l, []api.Record{commit(1)}, 0, 63, 1)
	}
	for kind := 1; kind <= 7; kind++ {
		add(t, l, api.Record{Kind: kind})
	}
}

// P1401, Append: a record of each size is refused if, and only if, it doesn't fit behind the end.
func TestAppendFull(t *testing.T) {
	for size := 39; size <= 1200; size++ {
		r := long(3, size)
		if n := sizes(t, []api.Record{r})[0]; n != size {
			t.Fatalf("a record of %d bytes, not of %d", n, size)
		}
		need := sectorsFor(size)
		for sectors := max(1, need-1); sectors <= need+1; sectors++ {
			l := open(t, disk.New(sectors+1), 1, sectors, 1)
			if sectors < need {
				checkRefused(t, l, r, api.ErrLog)
				checkLog(t, l, nil, 0, sectors, 1)
				continue
			}
			add(t, l, r)
			checkLog(t, l, []api.Record{r}, 0, sectors-need, 1)
		}
	}
}

// P1401, Append: the records that are not durable are counted together, those that are durable by their batches.
func TestAppendTogether(t *testing.T) {
	d := disk.New(10)
	l := open(t, d, 7, 3, 1) // 168 bytes: four records of 34 bytes, and 32 bytes
	var records []api.Record
	for i := range 4 {
		add(t, l, commit(i))
		records = append(records, commit(i))
		checkLog(t, l, records, 0, 3-sectorsFor(sizes(t, records)...), 1)
	}
	checkRefused(t, l, commit(4), api.ErrLog)
	checkRefused(t, l, api.Record{}, api.ErrArg)
	checkRefused(t, l, api.Record{Kind: 8, Patches: long(1, 1000).Patches}, api.ErrArg)
	checkLog(t, l, records, 0, 0, 1)
	checkErrno(t, "Flush", l.Flush(), api.OK)
	checkLog(t, l, records, 4, 0, 1)
	checkRefused(t, l, commit(4), api.ErrLog)
	checkRefused(t, l, commit(4), api.ErrLog)
	checkErrno(t, "Flush", l.Flush(), api.OK)
	checkLog(t, l, records, 4, 0, 1)
	checkLog(t, open(t, d, 7, 3, 2), records, 4, 0, 2)

	l = open(t, disk.New(10), 7, 3, 1) // one by one, each takes a sector
	for i := range 3 {
		add(t, l, commit(i))
		checkErrno(t, "Flush", l.Flush(), api.OK)
		checkLog(t, l, records[:i+1], i+1, 2-i, 1)
	}
	checkRefused(t, l, commit(3), api.ErrLog)
	checkLog(t, l, records[:3], 3, 0, 1)

	d = disk.New(20) // the durable ones are more than their sectors, and then less
	l = open(t, d, 7, 9, 1)
	add(t, l, records...)
	checkErrno(t, "Flush", l.Flush(), api.OK)
	checkRefused(t, l, long(5, 335), api.ErrLog)
	add(t, l, long(5, 278))
	checkErrno(t, "Flush", l.Flush(), api.OK)
	checkLog(t, l, append(slices.Clone(records), long(5, 278)), 5, 1, 1)
	checkRefused(t, l, long(6, 55), api.ErrLog)
	add(t, l, long(6, 54))
	checkErrno(t, "Flush", l.Flush(), api.OK)
	checkLog(t, open(t, d, 7, 9, 2), append(slices.Clone(records), long(5, 278), long(6, 54)), 6, 0, 2)

	l = open(t, disk.New(10), 7, 3, 1) // one that doesn't fit leaves room for one that does
	add(t, l, commit(0))
	checkRefused(t, l, long(1, 133), api.ErrLog)
	checkLog(t, l, records[:1], 0, 2, 1)
	add(t, l, long(1, 132))
	checkLog(t, l, []api.Record{commit(0), long(1, 132)}, 0, 0, 1)
}

// P1401, Append and Flush: the greatest log, filled with records by one batch and by one for each sector.
func TestGreatestLog(t *testing.T) {
	d := disk.New(10000)
	l := open(t, d, 5999, 4000, 1)
	var records []api.Record
	for sectorsFor(slices.Repeat([]int{32}, len(records)+1)...) <= 4000 {
		r := commit(len(records) % 60000)
		add(t, l, r)
		records = append(records, r)
	}
	checkRefused(t, l, commit(1), api.ErrLog)
	checkErrno(t, "Flush", l.Flush(), api.OK)
	checkLog(t, l, records, 6588, 0, 1)
	checkLog(t, open(t, d, 5999, 4000, 2), records, 6588, 0, 2)

	d = disk.New(10000)
	l = open(t, d, 6000, 4000, 1)
	for i := range 4000 {
		add(t, l, commit(i))
		checkErrno(t, "To", l.To(i+1), api.OK)
	}
	checkRefused(t, l, commit(1), api.ErrLog)
	checkLog(t, open(t, d, 6000, 4000, 2), records[:4000], 4000, 0, 2)
	if b, _ := d.Read(5999); b != zeros(64) {
		t.Errorf("the sector ahead of the log is %q", b)
	}
}

// P1401, Flush: it makes just the writes of its batch, and then they are permanent.
func TestFlush(t *testing.T) {
	d := marked(t, 80)
	before := contentsOf(t, d)
	l := open(t, d, 2, 64, 6)
	a := []api.Record{commit(1), long(2, 100), commit(3)}
	add(t, l, a...)
	batch := sectorsOf(6, 0, bytesOf(t, a[0]), bytesOf(t, a[1]), bytesOf(t, a[2]))
	d.Write(70, before[70])
	d.Stop(len(batch))
	checkErrno(t, "Flush", l.Flush(), api.OK)
	if d.Pending() != 0 || d.Dead() {
		t.Errorf("%d writes are pending, want none", d.Pending())
	}
	checkErrno(t, "the next Write", d.Write(0, zeros(64)), api.ErrDead)
	d.Crash()
	checkDisk(t, d, before, 2, batch...)
	checkLog(t, l, a, 3, 64-len(batch), 6)
	before = contentsOf(t, d)
	add(t, l, long(4, 500)) // the next batch begins a sector of its own
	checkErrno(t, "Flush", l.Flush(), api.OK)
	checkDisk(t, d, before, 2+len(batch), sectorsOf(6, len(batch), bytesOf(t, long(4, 500)))...)
	d.Crash()
	checkDisk(t, d, before, 2+len(batch), sectorsOf(6, len(batch), bytesOf(t, long(4, 500)))...)
}

// P1401, Flush and To: when all records are durable nothing is done, also on a machine that has stopped.
func TestNothingToFlush(t *testing.T) {
	d := marked(t, 80)
	l := open(t, d, 2, 64, 1)
	check := func(records ...api.Record) {
		t.Helper()
		d.Write(75, zeros(64))
		d.Stop(0)
		checkErrno(t, "Flush", l.Flush(), api.OK)
		for _, lsn := range []int{math.MinInt, -1, 0, 1, 2, 3, 100, math.MaxInt} {
			checkErrno(t, "To", l.To(lsn), api.OK)
		}
		if d.Pending() != 1 || d.Dead() {
			t.Errorf("%d writes are pending, want 1", d.Pending())
		}
		kill(d)
		checkErrno(t, "Flush of a dead machine", l.Flush(), api.OK)
		checkErrno(t, "To of a dead machine", l.To(5), api.OK)
		checkLog(t, l, records, len(records), 64-len(records), l.Epoch())
		d.Crash()
	}
	check()
	add(t, l, commit(1))
	checkErrno(t, "Flush", l.Flush(), api.OK)
	check(commit(1))
	l = open(t, d, 2, 64, 2)
	check(commit(1))
	add(t, l, commit(2))
	checkErrno(t, "Flush", l.Flush(), api.OK)
	check(commit(1), commit(2))
}

// P1401, To: it calls Flush for what is not durable, whether or not there is such a record.
func TestTo(t *testing.T) {
	records := []api.Record{commit(1), commit(2), commit(3), commit(4)}
	for _, lsn := range []int{math.MinInt, -1, 0, 1, 2, 3, 4, 5, 6, math.MaxInt} {
		d := disk.New(80)
		l := open(t, d, 2, 64, 1)
		add(t, l, records[:2]...)
		checkErrno(t, "Flush", l.Flush(), api.OK)
		add(t, l, records[2:]...)
		d.Stop(0)
		if lsn <= 2 {
			checkErrno(t, "To", l.To(lsn), api.OK)
			checkLog(t, l, records, 2, 60, 1)
			kill(d)
			checkErrno(t, "To of a dead machine", l.To(lsn), api.OK)
			continue
		}
		checkErrno(t, "To at a stop", l.To(lsn), api.ErrDead)
		checkErrno(t, "To of a dead machine", l.To(lsn), api.ErrDead)
		checkLog(t, l, records, 2, 60, 1)
		d.Crash()
		checkErrno(t, "To", l.To(lsn), api.OK)
		checkLog(t, l, records, 4, 60, 1)
	}
}

// P1401, Flush: the machine stops at each of its writes. The log tells what it told before, and goes on when the machine runs again.
func TestFlushStopped(t *testing.T) {
	first := []api.Record{commit(1), long(2, 150)}
	rest := []api.Record{long(3, 70), commit(4), full(), long(5, 300)}
	start := sectorsOf(4, 0, bytesOf(t, first[0]), bytesOf(t, first[1]))
	var texts []string
	for _, r := range rest {
		texts = append(texts, bytesOf(t, r))
	}
	batch := sectorsOf(4, len(start), texts...)
	more := sectorsOf(4, len(start), append(texts, bytesOf(t, commit(6)))...)
	all := slices.Concat(first, rest)
	for k := range batch {
		d := marked(t, 80)
		l := open(t, d, 2, 64, 4)
		add(t, l, first...)
		checkErrno(t, "Flush", l.Flush(), api.OK)
		before := contentsOf(t, d)
		add(t, l, rest...)
		d.Stop(k)
		checkErrno(t, "Flush", l.Flush(), api.ErrDead)
		if d.Pending() != k {
			t.Errorf("stopped at write %d, %d are pending", k, d.Pending())
		}
		checkLog(t, l, all, 2, 64-len(start)-len(batch), 4)
		checkErrno(t, "Flush of a dead machine", l.Flush(), api.ErrDead)
		checkLog(t, l, all, 2, 64-len(start)-len(batch), 4)
		add(t, l, commit(6))
		checkLog(t, l, append(slices.Clone(all), commit(6)), 2, 64-len(start)-len(more), 4)
		d.Crash(slices.Repeat([]bool{true}, k)...)
		checkDisk(t, d, before, 2+len(start), batch[:k]...)
		checkErrno(t, "Flush", l.Flush(), api.OK)
		checkDisk(t, d, before, 2+len(start), more...)
		checkLog(t, l, append(slices.Clone(all), commit(6)), 7, 64-len(start)-len(more), 4)
		checkLog(t, open(t, d, 2, 64, 5), append(slices.Clone(all), commit(6)), 7, 64-len(start)-len(more), 5)
	}
}

// P1401, Flush: an error of the disk's Sync is as one of a Write.
func TestSyncFails(t *testing.T) {
	l := open(t, disk.New(80), 2, 64, 1)
	add(t, l, commit(1), commit(2))
	sync := l.sync
	l.sync = func() api.Errno { return api.ErrDead }
	checkErrno(t, "Flush", l.Flush(), api.ErrDead)
	checkErrno(t, "To", l.To(1), api.ErrDead)
	checkLog(t, l, []api.Record{commit(1), commit(2)}, 0, 62, 1)
	l.sync = sync
	checkErrno(t, "To", l.To(1), api.OK)
	checkLog(t, l, []api.Record{commit(1), commit(2)}, 2, 62, 1)
}

// P1401, Flush: the first error of a Write is returned, and nothing more is done.
func TestWriteFails(t *testing.T) {
	d := disk.New(80)
	l := open(t, d, 2, 64, 1)
	add(t, l, long(1, 300))
	n := 0
	l.write = func(sector int, b string) api.Errno {
		if n++; n == 3 {
			return api.ErrRange
		}
		return d.Write(sector, b)
	}
	checkErrno(t, "Flush", l.Flush(), api.ErrRange)
	if n != 3 || d.Pending() != 2 {
		t.Errorf("%d writes were made, and %d are pending, want 3, 2", n, d.Pending())
	}
	checkLog(t, l, []api.Record{long(1, 300)}, 0, 58, 1)
	checkErrno(t, "To", l.To(1), api.OK)
	checkLog(t, l, []api.Record{long(1, 300)}, 1, 58, 1)
}

// P1402, At: records with all that they may have, before and after they are durable, and read again.
func TestAt(t *testing.T) {
	check := full()
	check.Kind = api.Check
	large := full()
	large.Old = api.Cell{Key: "k", Blob: 3, Size: 400}
	greatest := api.Record{Kind: api.Struct}
	for i := range 40 {
		greatest.Patches = append(greatest.Patches, api.Patch{Page: i, Bytes: text(256)})
	}
	records := []api.Record{full(), commit(1), check, greatest, large, {Kind: api.End}, {Kind: api.Abort, Key: "\x00"}, {Kind: api.Undone, Next: 1}}
	d := disk.New(400)
	l := open(t, d, 2, 398, 1)
	add(t, l, records...)
	left := 398 - sectorsFor(sizes(t, records)...)
	checkLog(t, l, records, 0, left, 1)
	checkErrno(t, "Flush", l.Flush(), api.OK)
	checkLog(t, l, records, len(records), left, 1)
	checkLog(t, open(t, d, 2, 398, 2), records, len(records), left, 2)
}

// P1402: a nil Log, and a zero one, which behaves like it.
func TestNilAndZero(t *testing.T) {
	for _, l := range []*Log{nil, {}} {
		checkRefused(t, l, commit(1), api.ErrState)
		checkRefused(t, l, api.Record{}, api.ErrState)
		checkErrno(t, "Flush", l.Flush(), api.ErrState)
		for _, lsn := range []int{-1, 0, 1, 2, math.MaxInt} {
			checkErrno(t, "To", l.To(lsn), api.ErrState)
		}
		checkLog(t, l, nil, 0, 0, 0)
	}
}

// P1401 and P1402: logs of different places on one disk, and two logs of one place, do not touch one another.
func TestSeveralLogs(t *testing.T) {
	d := disk.New(80)
	a, b := open(t, d, 0, 10, 1), open(t, d, 10, 10, 2)
	twin := open(t, d, 0, 10, 3)
	add(t, a, commit(1), commit(2))
	add(t, b, commit(3))
	checkErrno(t, "Flush", a.Flush(), api.OK)
	checkErrno(t, "Flush", b.Flush(), api.OK)
	checkLog(t, a, []api.Record{commit(1), commit(2)}, 2, 8, 1)
	checkLog(t, b, []api.Record{commit(3)}, 1, 9, 2)
	checkLog(t, twin, nil, 0, 10, 3)
	checkLog(t, open(t, d, 0, 10, 4), []api.Record{commit(1), commit(2)}, 2, 8, 4)
	checkLog(t, open(t, d, 10, 10, 4), []api.Record{commit(3)}, 1, 9, 4)
}

// story is a log as the chapter tells of it, in epochs that each end in a crash.
type story struct {
	epoch, end, durable int
	records             []api.Record
}

const storySectors = 100 // so that some stories fill their log

// later are the records that are not durable.
func (s *story) later() []api.Record { return s.records[s.durable:] }

func (s *story) left(t *testing.T) int {
	return storySectors - s.end - sectorsFor(sizes(t, s.later())...)
}

func (s *story) check(t *testing.T, l *Log) {
	t.Helper()
	checkLog(t, l, s.records, s.durable, s.left(t), s.epoch)
}

// flushed says that all records have become durable.
func (s *story) flushed(t *testing.T) {
	s.end += sectorsFor(sizes(t, s.later())...)
	s.durable = len(s.records)
}

// crashed keeps the records that are in the first kept sectors of the batch as a whole.
func (s *story) crashed(t *testing.T, kept int) {
	n, size, end := 0, 0, s.end
	for _, k := range sizes(t, s.later()) {
		size += 2 + k
		if size > kept*56 {
			break
		}
		n++
		end = s.end + (size+55)/56
	}
	s.records = s.records[:s.durable+n]
	s.durable, s.end = len(s.records), end
}

// anyRecord is a record of any size.
func anyRecord(next func(int) int) api.Record {
	switch next(8) {
	case 0:
		return full()
	case 1, 2:
		return long(next(9), 39+next(400))
	default:
		return commit(next(9))
	}
}

// step makes one step of a story with its log.
func (s *story) step(t *testing.T, l *Log, next func(int) int) {
	t.Helper()
	switch next(8) {
	case 0:
		checkErrno(t, "Flush", l.Flush(), api.OK)
		s.flushed(t)
	case 1:
		lsn := next(len(s.records) + 3)
		checkErrno(t, "To", l.To(lsn), api.OK)
		if lsn > s.durable {
			s.flushed(t)
		}
	default:
		r := anyRecord(next)
		after := *s
		after.records = append(slices.Clone(s.records), r)
		if after.left(t) < 0 {
			checkRefused(t, l, r, api.ErrLog)
			return
		}
		add(t, l, r)
		*s = after
	}
}

// stop stops the machine within a Flush, if one has something to write, and keeps any of the writes.
func (s *story) stop(t *testing.T, d *disk.Disk, l *Log, next func(int) int) {
	t.Helper()
	n := sectorsFor(sizes(t, s.later())...)
	if n == 0 {
		d.Crash()
		return
	}
	writes := next(n)
	d.Stop(writes)
	checkErrno(t, "Flush", l.Flush(), api.ErrDead)
	s.check(t, l)
	keep := make([]bool, writes)
	kept := 0
	for i := range keep {
		keep[i] = next(4) > 0
		if keep[i] && kept == i {
			kept++
		}
	}
	d.Crash(keep...)
	s.crashed(t, kept)
}

// P1401 and P1402, W2: logs go on, stop and are opened again, and lose no record that was durable.
func TestStories(t *testing.T) {
	next := numbers(31)
	for range 120 {
		d := marked(t, storySectors+7)
		before := contentsOf(t, d)
		s := &story{}
		for range 14 {
			s.epoch += 1 + next(3)
			l := open(t, d, 4, storySectors, s.epoch)
			s.check(t, l)
			for range next(9) {
				s.step(t, l, next)
				s.check(t, l)
			}
			s.stop(t, d, l, next)
		}
		now := contentsOf(t, d)
		if !slices.Equal(now[:4], before[:4]) || !slices.Equal(now[4+storySectors:], before[4+storySectors:]) {
			t.Error("sectors outside the log were written")
		}
	}
}

// DOC.md, rules 2 and 7: a record that was appended or told may be changed without a change of the log.
func TestNewMemory(t *testing.T) {
	d := disk.New(80)
	l := open(t, d, 2, 64, 1)
	r := full()
	add(t, l, r)
	spoil(&r)
	checkLog(t, l, []api.Record{full()}, 0, 64-sectorsFor(sizes(t, []api.Record{full()})...), 1)
	for range 3 {
		one, _ := l.At(1)
		two, _ := l.At(1)
		checkNew(t, textsOf(one), textsOf(two))
		checkNew(t, textsOf(r), textsOf(two))
		spoil(&one)
		if !reflect.DeepEqual(two, full()) {
			t.Errorf("a record became %#v", two)
		}
		if again, _ := l.At(1); !reflect.DeepEqual(again, full()) {
			t.Errorf("the log's record became %#v", again)
		}
		l.Flush()
		l = open(t, d, 2, 64, l.Epoch()+1)
	}
}

// spoil changes whatever of a record is in memory that may be shared.
func spoil(r *api.Record) {
	clear(r.Txs[0].Pages)
	_ = append(r.Txs[0].Pages[:0], 77)
	clear(r.Pages)
	clear(r.Txs)
	clear(r.Dirty)
	for i := range r.Patches {
		r.Patches[i].Page++
	}
	_ = append(r.Pages, 1)
	_ = append(r.Patches, api.Patch{})
	_ = append(r.Txs, api.TxInfo{})
	_ = append(r.Dirty, api.DirtyInfo{})
}

func textsOf(r api.Record) []string {
	l := []string{r.Key, r.Old.Key, r.Old.Value}
	for _, p := range r.Patches {
		l = append(l, p.Bytes)
	}
	return l
}

// overlap reports whether two texts share memory.
func overlap(a, b string) bool {
	x, y := uintptr(unsafe.Pointer(unsafe.StringData(a))), uintptr(unsafe.Pointer(unsafe.StringData(b)))
	return len(a) > 1 && len(b) > 1 && x < y+uintptr(len(b)) && y < x+uintptr(len(a)) // those of one byte are never made
}

func checkNew(t *testing.T, before, results []string) {
	t.Helper()
	for i, s := range results {
		for _, o := range before {
			if overlap(s, o) {
				t.Errorf("text %d, %.20q, shares memory", i, s)
			}
		}
	}
}

// DOC.md, rule 2: Append does not modify its record, nor what lies behind its lists.
func TestKeeps(t *testing.T) {
	l := open(t, disk.New(80), 2, 64, 1)
	r := full()
	r.Pages = r.Pages[:2]
	r.Patches = r.Patches[:1]
	r.Txs = r.Txs[:1]
	r.Dirty = r.Dirty[:1]
	add(t, l, r)
	l.Flush()
	r.Kind = 9
	checkRefused(t, l, r, api.ErrArg)
	r.Kind = api.Update
	r.Pages, r.Patches, r.Txs, r.Dirty = r.Pages[:3], r.Patches[:2], r.Txs[:2], r.Dirty[:2]
	if !reflect.DeepEqual(r, full()) {
		t.Errorf("the record became %#v", r)
	}
}

// The numbers of the limits, as the other tests have them.
func TestLimits(t *testing.T) {
	got := []int{api.Sector, api.Payload, api.MaxLog}
	if want := []int{64, 56, 4000}; !slices.Equal(got, want) {
		t.Errorf("the limits are %v, want %v", got, want)
	}
}

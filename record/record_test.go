package record

import (
	"encoding/binary"
	"fmt"
	"math"
	"slices"
	"strings"
	"testing"
	"unsafe"

	"honeycomb/api"
)

// numbers is a row of numbers that look like chance and are always the same.
func numbers(seed uint32) func(below int) int {
	return func(below int) int {
		seed = seed*1664525 + 1013904223
		return int(seed>>8) % below
	}
}

// text is n bytes that all differ from their neighbours, so that one that moved is seen.
func text(n int) string {
	b := make([]byte, n)
	for i := range b {
		b[i] = byte(i*7 + 65)
	}
	return string(b)
}

// wide are numbers of all sorts, among them some whose lowest bytes may be a field's.
func wide() []int {
	l := []int{math.MaxInt, math.MaxInt - 1, math.MinInt, math.MinInt + 1, math.MinInt + 5}
	for _, n := range []int{0, 1 << 8, 1 << 15, 1 << 16, 1 << 31, 1 << 32, 1 << 40, 1 << 48} {
		for d := -9; d <= 9; d++ {
			l = append(l, n+d, -n+d)
		}
	}
	return l
}

func num(n int) string { return string(binary.BigEndian.AppendUint16(nil, uint16(n))) }

func long(n int) string { return string(binary.BigEndian.AppendUint32(nil, uint32(n))) }

func textBytes(s string) string { return num(len(s)) + s }

func flagBytes(is bool) string {
	if is {
		return "\x00\x01"
	}
	return "\x00\x00"
}

// pagesBytes and encoded join pieces at the end, as the lists of some tests are long.
func pagesBytes(l []int) string {
	s := []string{num(len(l))}
	for _, n := range l {
		s = append(s, num(n))
	}
	return strings.Join(s, "")
}

// encoded is the bytes of a record, with no regard to whether it may be.
func encoded(r api.Record) string {
	s := []string{
		num(r.Kind), num(r.Tx), long(r.Prev), long(r.Next), textBytes(r.Key), flagBytes(r.Had),
		textBytes(r.Old.Key), textBytes(r.Old.Value), num(r.Old.Blob), num(r.Old.Size),
		pagesBytes(r.Pages), num(len(r.Patches)),
	}
	for _, p := range r.Patches {
		s = append(s, num(p.Page), num(p.At), textBytes(p.Bytes))
	}
	s = append(s, num(len(r.Txs)))
	for _, t := range r.Txs {
		s = append(s, num(t.Tx), long(t.Last), flagBytes(t.Committed), pagesBytes(t.Pages))
	}
	s = append(s, num(len(r.Dirty)))
	for _, d := range r.Dirty {
		s = append(s, num(d.Page), long(d.Lsn))
	}
	return strings.Join(s, "")
}

// parts takes a record's bytes apart and notes whether one of them may not be, or is not there.
type parts struct {
	b     string
	at    int
	wrong bool
}

func (p *parts) bytes(n int) string {
	if p.wrong || p.at+n > len(p.b) {
		p.wrong = true
		return "\x00\x00\x00\x00"
	}
	p.at += n
	return p.b[p.at-n : p.at]
}

func (p *parts) num() int { return int(binary.BigEndian.Uint16([]byte(p.bytes(2)))) }

func (p *parts) long() int { return int(binary.BigEndian.Uint32([]byte(p.bytes(4)))) }

func (p *parts) text() string { return p.bytes(p.num()) }

func (p *parts) flag() bool {
	n := p.num()
	p.wrong = p.wrong || n > 1
	return n == 1
}

// count is how many elements a list has, if it may have so many.
func (p *parts) count(most int) int {
	n := p.num()
	p.wrong = p.wrong || n > most
	if p.wrong {
		return 0
	}
	return n
}

func (p *parts) pages() []int {
	var l []int
	for range p.count(64) {
		l = append(l, p.num())
	}
	return l
}

// decoded is what Get is to return, with each fault found where it is.
func decoded(b string) (api.Record, bool) {
	p := parts{b: b}
	var r api.Record
	r.Kind = p.num()
	r.Tx = p.num()
	r.Prev = p.long()
	r.Next = p.long()
	r.Key = p.text()
	r.Had = p.flag()
	r.Old.Key = p.text()
	r.Old.Value = p.text()
	r.Old.Blob = p.num()
	r.Old.Size = p.num()
	r.Pages = p.pages()
	for range p.count(40) {
		page, at := p.num(), p.num()
		r.Patches = append(r.Patches, api.Patch{Page: page, At: at, Bytes: p.text()})
	}
	for range p.count(8) {
		var t api.TxInfo
		t.Tx = p.num()
		t.Last = p.long()
		t.Committed = p.flag()
		t.Pages = p.pages()
		r.Txs = append(r.Txs, t)
	}
	for range p.count(64) {
		page := p.num()
		r.Dirty = append(r.Dirty, api.DirtyInfo{Page: page, Lsn: p.long()})
	}
	if p.wrong || p.at != len(b) || !mayBe(r) {
		return api.Record{}, false
	}
	return r, true
}

// mayBe is what Right is to tell, said the other way round: all that may be wrong.
func mayBe(r api.Record) bool {
	switch {
	case r.Kind < 1, r.Kind > 7, r.Tx < 0, r.Tx > 65535, r.Prev < 0, r.Prev > 4294967295, r.Next < 0, r.Next > 4294967295:
		return false
	case len(r.Key) > 255, len(r.Pages) > 64, len(r.Patches) > 40, len(r.Txs) > 8, len(r.Dirty) > 64, !mayBeOld(r.Old):
		return false
	}
	for _, n := range r.Pages {
		if n < 0 || n > 65535 {
			return false
		}
	}
	for _, p := range r.Patches {
		if p.Page < 0 || p.Page > 63 || p.At < 0 || p.Bytes == "" || len(p.Bytes) > 256 || p.At > 256-len(p.Bytes) {
			return false
		}
	}
	for _, t := range r.Txs {
		if t.Tx < 0 || t.Tx > 65535 || t.Last < 0 || t.Last > 4294967295 || len(t.Pages) > 64 {
			return false
		}
		for _, n := range t.Pages {
			if n < 0 || n > 65535 {
				return false
			}
		}
	}
	for _, d := range r.Dirty {
		if d.Page < 0 || d.Page > 65535 || d.Lsn < 0 || d.Lsn > 4294967295 {
			return false
		}
	}
	return true
}

func mayBeOld(c api.Cell) bool {
	switch {
	case c == api.Cell{}:
		return true
	case len(c.Key) < 1, len(c.Key) > 16:
		return false
	case c.Blob == 0:
		return len(c.Value) < 41 && c.Size == 0
	}
	return c.Blob > 1 && c.Blob < 64 && c.Value == "" && c.Size > 40 && c.Size < 401
}

func equal(a, b api.Record) bool {
	return a.Kind == b.Kind && a.Tx == b.Tx && a.Prev == b.Prev && a.Next == b.Next && a.Key == b.Key && a.Had == b.Had && a.Old == b.Old &&
		slices.Equal(a.Pages, b.Pages) && slices.Equal(a.Patches, b.Patches) && slices.EqualFunc(a.Txs, b.Txs, equalTx) && slices.Equal(a.Dirty, b.Dirty)
}

func equalTx(a, b api.TxInfo) bool {
	return a.Tx == b.Tx && a.Last == b.Last && a.Committed == b.Committed && slices.Equal(a.Pages, b.Pages)
}

func show(r api.Record) string {
	lists := []string{fmt.Sprint(r.Pages), fmt.Sprintf("%#v", r.Patches), fmt.Sprint(r.Txs), fmt.Sprint(r.Dirty)}
	return fmt.Sprintf("{%d %d %d %d, %d bytes %.30q %v %#v, lists %.200q}", r.Kind, r.Tx, r.Prev, r.Next, len(r.Key), r.Key, r.Had, r.Old, lists)
}

// checkMay is for a record that may be: its bytes, and back.
func checkMay(t *testing.T, what string, r api.Record) {
	t.Helper()
	want := encoded(r)
	if !Right(r) {
		t.Errorf("%s: %s is not Right", what, show(r))
	}
	if got, ok := Put(r); got != want || !ok {
		t.Errorf("%s: Put of %s = %d bytes %.80q, %v, want %d bytes %.80q", what, show(r), len(got), got, ok, len(want), want)
	}
	if got, ok := Get(want); !equal(got, r) || !ok {
		t.Errorf("%s: Get of %.80q = %s, %v, want %s", what, want, show(got), ok, show(r))
	}
}

// checkMayNot is for a record that may not be; its bytes, where it has some, are none.
func checkMayNot(t *testing.T, what string, r api.Record) {
	t.Helper()
	if Right(r) {
		t.Errorf("%s: %s is Right", what, show(r))
	}
	if got, ok := Put(r); got != "" || ok {
		t.Errorf("%s: Put of %s = %d bytes %.80q, %v, want none", what, show(r), len(got), got, ok)
	}
	if b := encoded(r); !mayBeBytes(b) {
		checkNone(t, what, b)
	}
}

// mayBeBytes tells whether bytes are those of a record that may be: those of a number that has no place in them are another's.
func mayBeBytes(b string) bool {
	_, ok := decoded(b)
	return ok
}

func checkNone(t *testing.T, what, b string) {
	t.Helper()
	if got, ok := Get(b); !equal(got, api.Record{}) || ok {
		t.Errorf("%s: Get of %d bytes %.80q = %s, %v, want none", what, len(b), b, show(got), ok)
	}
}

// check is for any record, held against mayBe.
func check(t *testing.T, what string, r api.Record) {
	t.Helper()
	if mayBe(r) {
		checkMay(t, what, r)
	} else {
		checkMayNot(t, what, r)
	}
}

// checkBytes is for any bytes, held against decoded.
func checkBytes(t *testing.T, what, b string) {
	t.Helper()
	want, wantOk := decoded(b)
	if got, ok := Get(b); !equal(got, want) || ok != wantOk {
		t.Errorf("%s: Get of %d bytes %.80q = %s, %v, want %s, %v", what, len(b), b, show(got), ok, show(want), wantOk)
	}
}

// full is a record with something in each field, no two of them alike.
func full() api.Record {
	return api.Record{
		Kind: api.Undone, Tx: 0x1234, Prev: 0x56789abc, Next: 0xdef01357, Key: "key", Had: true,
		Old:     api.Cell{Key: "old", Value: "value"},
		Pages:   []int{0x2468, 5, 0, 65535, 5},
		Patches: []api.Patch{{Page: 9, At: 3, Bytes: "nine"}, {Page: 63, At: 255, Bytes: "\x00"}, {Page: 0, At: 0, Bytes: "z"}},
		Txs:     []api.TxInfo{{Tx: 7, Last: 0x01020304, Committed: true, Pages: []int{4, 0xfedc}}, {}, {Tx: 6, Last: 5}},
		Dirty:   []api.DirtyInfo{{Page: 8, Lsn: 0x0a0b0c0d}, {}, {Page: 0x1122, Lsn: 3}},
	}
}

// outside is a record whose Old has its value in another page, and whose lists are short.
func outside() api.Record {
	return api.Record{
		Kind: api.Update, Tx: 1, Prev: 2, Next: 3, Key: "k", Had: true,
		Old:     api.Cell{Key: "k", Blob: 63, Size: 300},
		Patches: []api.Patch{{Page: 1, At: 2, Bytes: "ab"}},
		Txs:     []api.TxInfo{{Tx: 1, Last: 1, Pages: []int{1}}},
		Dirty:   []api.DirtyInfo{{Page: 1, Lsn: 1}},
	}
}

// greatest is the record with the most bytes.
func greatest() api.Record {
	r := api.Record{Kind: 7, Tx: 65535, Prev: 4294967295, Next: 4294967295, Key: text(255), Had: true, Old: api.Cell{Key: text(16), Value: text(40)}}
	for range 64 {
		r.Pages = append(r.Pages, 65535)
		r.Dirty = append(r.Dirty, api.DirtyInfo{Page: 65535, Lsn: 4294967295})
	}
	for i := range 40 {
		r.Patches = append(r.Patches, api.Patch{Page: 63 - i, Bytes: text(256)})
	}
	for range 8 {
		r.Txs = append(r.Txs, api.TxInfo{Tx: 65535, Last: 4294967295, Committed: true, Pages: slices.Clone(r.Pages)})
	}
	return r
}

// anyRecord is one of many records that may be.
func anyRecord(next func(int) int) api.Record {
	r := api.Record{Kind: 1 + next(7), Tx: next(65536), Prev: next(1 << 24), Next: next(1<<24) << 8, Key: text(next(256)), Had: next(2) == 1}
	switch next(3) {
	case 0:
		r.Old = api.Cell{Key: text(1 + next(16)), Value: text(next(41))}
	case 1:
		r.Old = api.Cell{Key: text(1 + next(16)), Blob: 2 + next(62), Size: 41 + next(360)}
	}
	for range next(65) {
		r.Pages = append(r.Pages, next(65536))
	}
	for range next(41) {
		size := 1 + next(256)
		r.Patches = append(r.Patches, api.Patch{Page: next(64), At: next(257 - size), Bytes: text(size)})
	}
	for range next(9) {
		x := api.TxInfo{Tx: next(65536), Last: next(1<<24) << next(9), Committed: next(2) == 1}
		for range next(65) {
			x.Pages = append(x.Pages, next(65536))
		}
		r.Txs = append(r.Txs, x)
	}
	for range next(65) {
		r.Dirty = append(r.Dirty, api.DirtyInfo{Page: next(65536), Lsn: next(1<<24) << next(9)})
	}
	return r
}

// smallest are records of each kind with nothing in them.
func smallest() []api.Record {
	var l []api.Record
	for kind := 1; kind <= 7; kind++ {
		l = append(l, api.Record{Kind: kind})
	}
	return l
}

func samples() []api.Record { return append(smallest(), full(), outside(), greatest()) }

// changed is a full record after a change.
func changed(change func(*api.Record)) api.Record {
	r := full()
	change(&r)
	return r
}

// The chapter's examples.
func TestExamples(t *testing.T) {
	if got := Name(api.Undone); got != "undone" {
		t.Errorf("Name(Undone) = %q", got)
	}
	for _, r := range smallest() {
		if got := Touches(r); len(got) != 0 {
			t.Errorf("Touches of a record without patches = %v", got)
		}
	}
}

// P1201: records as they are written out by hand.
func TestKnown(t *testing.T) {
	r := api.Record{
		Kind: 1, Tx: 258, Prev: 1<<24 + 2, Next: 4294967295, Key: "ab", Had: true,
		Old:     api.Cell{Key: "ab", Blob: 5, Size: 300},
		Pages:   []int{3, 65535},
		Patches: []api.Patch{{Page: 2, At: 16, Bytes: "xyz"}},
		Txs:     []api.TxInfo{{Tx: 9, Last: 10, Committed: true, Pages: []int{11}}},
		Dirty:   []api.DirtyInfo{{Page: 12, Lsn: 65536}},
	}
	want := "\x00\x01" + "\x01\x02" + "\x01\x00\x00\x02" + "\xff\xff\xff\xff" + "\x00\x02ab" + "\x00\x01" +
		"\x00\x02ab" + "\x00\x00" + "\x00\x05" + "\x01\x2c" +
		"\x00\x02" + "\x00\x03" + "\xff\xff" +
		"\x00\x01" + "\x00\x02" + "\x00\x10" + "\x00\x03xyz" +
		"\x00\x01" + "\x00\x09" + "\x00\x00\x00\x0a" + "\x00\x01" + "\x00\x01" + "\x00\x0b" +
		"\x00\x01" + "\x00\x0c" + "\x00\x01\x00\x00"
	if got, ok := Put(r); got != want || !ok {
		t.Errorf("Put = %q, %v, want %q", got, ok, want)
	}
	if got, ok := Get(want); !equal(got, r) || !ok {
		t.Errorf("Get = %s, %v, want %s", show(got), ok, show(r))
	}
	if got, ok := Put(api.Record{Kind: 5}); got != "\x00\x05"+strings.Repeat("\x00", 30) || !ok {
		t.Errorf("Put of the shortest = %q, %v", got, ok)
	}
}

// P1201: records of all sizes, from nothing in them to the most.
func TestSamples(t *testing.T) {
	for _, r := range samples() {
		checkMay(t, "sample", r)
	}
	next := numbers(12)
	for range 2000 {
		checkMay(t, "any", anyRecord(next))
	}
}

// P1201: a nil list and an empty one are the same.
func TestEmptyLists(t *testing.T) {
	r := api.Record{Kind: 7, Pages: []int{}, Patches: []api.Patch{}, Txs: []api.TxInfo{{Pages: []int{}}}, Dirty: []api.DirtyInfo{}}
	checkMay(t, "empty lists", r)
	checkMay(t, "nil lists", api.Record{Kind: 7, Txs: []api.TxInfo{{}}})
}

// P1201, Right: each kind, with each field, whatever such a record is for; no other number.
func TestKinds(t *testing.T) {
	for _, kind := range wide() {
		check(t, "kind", api.Record{Kind: kind})
	}
	for kind := -300; kind <= 600; kind++ {
		r := full()
		r.Kind = kind
		check(t, "kind", r)
	}
	checkMayNot(t, "zero", api.Record{})
}

// P1201, Right: the limits of each number.
func TestNumbers(t *testing.T) {
	sets := map[string]func(*api.Record, int){
		"Tx":            func(r *api.Record, n int) { r.Tx = n },
		"Prev":          func(r *api.Record, n int) { r.Prev = n },
		"Next":          func(r *api.Record, n int) { r.Next = n },
		"Old.Blob":      func(r *api.Record, n int) { r.Old.Blob = n },
		"Old.Size":      func(r *api.Record, n int) { r.Old.Size = n },
		"Pages[0]":      func(r *api.Record, n int) { r.Pages[0] = n },
		"Pages[4]":      func(r *api.Record, n int) { r.Pages[4] = n },
		"Patch.Page":    func(r *api.Record, n int) { r.Patches[0].Page = n },
		"Patch.At":      func(r *api.Record, n int) { r.Patches[0].At = n },
		"last Patch.At": func(r *api.Record, n int) { r.Patches[2].At = n },
		"Txs.Tx":        func(r *api.Record, n int) { r.Txs[0].Tx = n },
		"last Txs.Tx":   func(r *api.Record, n int) { r.Txs[2].Tx = n },
		"Txs.Last":      func(r *api.Record, n int) { r.Txs[0].Last = n },
		"last Txs.Last": func(r *api.Record, n int) { r.Txs[2].Last = n },
		"Txs.Pages[0]":  func(r *api.Record, n int) { r.Txs[0].Pages[0] = n },
		"Txs.Pages[1]":  func(r *api.Record, n int) { r.Txs[0].Pages[1] = n },
		"Dirty.Page":    func(r *api.Record, n int) { r.Dirty[0].Page = n },
		"last Page":     func(r *api.Record, n int) { r.Dirty[2].Page = n },
		"Dirty.Lsn":     func(r *api.Record, n int) { r.Dirty[0].Lsn = n },
		"last Lsn":      func(r *api.Record, n int) { r.Dirty[2].Lsn = n },
	}
	for what, set := range sets {
		for _, n := range wide() {
			check(t, what, changed(func(r *api.Record) { set(r, n) }))
		}
		for n := range 450 {
			check(t, what, changed(func(r *api.Record) { set(r, n) }))
		}
	}
}

// P1201, Right: the Key of the record has at most 255 bytes, whatever they are.
func TestKey(t *testing.T) {
	for n := range 600 {
		check(t, "key", changed(func(r *api.Record) { r.Key = text(n) }))
	}
	for _, n := range []int{65535, 65536, 65536 + 3, 131072} {
		checkMayNot(t, "key", changed(func(r *api.Record) { r.Key = text(n) }))
	}
	checkMay(t, "key", changed(func(r *api.Record) { r.Key = strings.Repeat("é", 127) })) // bytes count, not runes
	checkMayNot(t, "key", changed(func(r *api.Record) { r.Key = strings.Repeat("é", 128) }))
}

// P1201, Right: Old is the zero cell or one that may be.
func TestOld(t *testing.T) {
	for _, key := range []string{"", "k", text(16), text(17), text(255), text(65536 + 1)} {
		for _, value := range []string{"", "v", text(40), text(41), text(400), text(65536)} {
			for _, blob := range []int{0, 1, 2, 63, 64, 65536 + 2, -1, -2} {
				for _, size := range []int{0, 1, 40, 41, 400, 401, 65536 + 41, -1} {
					r := full()
					r.Old = api.Cell{Key: key, Value: value, Blob: blob, Size: size}
					check(t, "old", r)
				}
			}
		}
	}
	checkMay(t, "zero Old", changed(func(r *api.Record) { r.Old = api.Cell{} }))
	checkMay(t, "zero Old and not Had", changed(func(r *api.Record) { r.Old, r.Had = api.Cell{}, false }))
	checkMay(t, "Old and not Had", changed(func(r *api.Record) { r.Had = false }))
}

// P1201, Right: how many elements each list may have.
func TestLengths(t *testing.T) {
	for n := range 300 {
		check(t, "pages", changed(func(r *api.Record) { r.Pages = slices.Repeat([]int{7}, n) }))
		check(t, "patches", changed(func(r *api.Record) { r.Patches = slices.Repeat([]api.Patch{{Page: 2, Bytes: "x"}}, n) }))
		check(t, "txs", changed(func(r *api.Record) { r.Txs = slices.Repeat([]api.TxInfo{{Tx: 2, Pages: []int{1}}}, n) }))
		check(t, "empty txs", changed(func(r *api.Record) { r.Txs = make([]api.TxInfo, n) }))
		check(t, "dirty", changed(func(r *api.Record) { r.Dirty = slices.Repeat([]api.DirtyInfo{{Page: 2, Lsn: 3}}, n) }))
		for i := range full().Txs {
			check(t, "txs' pages", changed(func(r *api.Record) { r.Txs[i].Pages = slices.Repeat([]int{7}, n) }))
		}
	}
	for n, want := range map[int]bool{40: true, 41: false} {
		if got := Right(changed(func(r *api.Record) { r.Patches = slices.Repeat([]api.Patch{{Bytes: "x"}}, n) })); got != want {
			t.Errorf("with %d patches Right is %v", n, got)
		}
	}
	for _, n := range []int{65536, 65537, 65536 + 5} { // as many as two bytes do not tell
		checkMayNot(t, "pages", api.Record{Kind: 1, Pages: make([]int, n)})
		checkMayNot(t, "patches", api.Record{Kind: 1, Patches: slices.Repeat([]api.Patch{{Bytes: "x"}}, n)})
		checkMayNot(t, "txs", api.Record{Kind: 1, Txs: make([]api.TxInfo, n)})
		checkMayNot(t, "txs' pages", api.Record{Kind: 1, Txs: []api.TxInfo{{Pages: make([]int, n)}}})
		checkMayNot(t, "dirty", api.Record{Kind: 1, Dirty: make([]api.DirtyInfo, n)})
	}
}

// P1201, Right: one wrong element, wherever it is in a list.
func TestElements(t *testing.T) {
	for i := range 64 {
		for _, n := range []int{-1, 65536, 1 << 32} {
			r := greatest()
			r.Pages[i] = n
			checkMayNot(t, "page", r)
			r = greatest()
			r.Dirty[i].Page = n
			checkMayNot(t, "dirty page", r)
			r = greatest()
			r.Dirty[i].Lsn = n &^ 65536
			check(t, "dirty lsn", r)
			r = greatest()
			r.Txs[i/8].Pages[i] = n
			checkMayNot(t, "a transaction's page", r)
		}
	}
	for i := range 40 {
		for _, p := range []api.Patch{{}, {Page: 64, Bytes: "x"}, {Page: -1, Bytes: "x"}, {Page: 1, At: 256, Bytes: "x"}, {Page: 1, At: -1, Bytes: "x"}, {Page: 1}, {Page: 1, Bytes: text(257)}, {Page: 1, At: 1, Bytes: text(256)}, {Page: 1, At: math.MaxInt, Bytes: "xx"}} {
			r := greatest()
			r.Patches[i] = p
			checkMayNot(t, "patch", r)
		}
	}
	for i := range 8 {
		for _, x := range []api.TxInfo{{Tx: -1}, {Tx: 65536}, {Last: -1}, {Last: 1 << 32}, {Pages: make([]int, 65)}, {Pages: []int{-1}}, {Committed: true, Pages: []int{65536}}} {
			r := greatest()
			r.Txs[i] = x
			checkMayNot(t, "transaction", r)
		}
	}
}

// P1201, Put: the marks are 0 and 1, each at its place.
func TestFlags(t *testing.T) {
	for _, had := range []bool{false, true} {
		for mask := range 8 {
			r := full()
			r.Had = had
			for i := range r.Txs {
				r.Txs[i].Committed = mask>>i&1 == 1
			}
			checkMay(t, "flags", r)
		}
	}
	b := encoded(api.Record{Kind: 2, Txs: []api.TxInfo{{}}})
	for n := 2; n < 65536; n++ {
		checkNone(t, "had", b[:14]+num(n)+b[16:])
		checkNone(t, "committed", b[:36]+num(n)+b[38:])
	}
}

// P1201, Get: the bytes of a record that stops early, at each place, and of one with bytes behind it.
func TestCut(t *testing.T) {
	for _, r := range samples() {
		b := encoded(r)
		for n := range b {
			checkNone(t, "cut short", b[:n])
		}
		for c := range 256 {
			checkNone(t, "a byte behind", b+string([]byte{byte(c)}))
		}
		checkNone(t, "two bytes behind", b+"\x00\x00")
		checkNone(t, "itself behind", b+b)
		checkNone(t, "a byte before", "\x00"+b)
		checkNone(t, "without the first", b[1:])
	}
	checkNone(t, "nothing", "")
}

// P1201, Get: any one byte turned to any other, in records of several sorts.
func TestEachByte(t *testing.T) {
	for _, r := range append(smallest(), full(), outside()) {
		b := encoded(r)
		for at := range b {
			if t.Failed() { // one fault is to be told, not thousands
				return
			}
			for c := range 256 {
				x := []byte(b)
				x[at] = byte(c)
				checkBytes(t, fmt.Sprintf("byte %d of a record", at), string(x))
			}
		}
	}
}

// P1201, Get: a byte more or less at each place.
func TestShifted(t *testing.T) {
	for _, r := range append(smallest(), full(), outside()) {
		b := encoded(r)
		for at := range b {
			checkBytes(t, "less", b[:at]+b[at+1:])
			for _, c := range []string{"\x00", "\x01", "\x02", "\xff", "\x00\x00", "\x00\x01", "\x00\x00\x00\x00", "\x00\x00\x00\x00\x00\x00"} {
				checkBytes(t, "more", b[:at]+c+b[at:])
			}
		}
	}
}

// P1201, Get: bytes with more elements than may be, all of them there, and with a number of elements that are not.
func TestCounts(t *testing.T) {
	zeros := strings.Repeat("\x00", 1<<20)
	for _, at := range []int{24, 26, 28, 30} { // Pages, Patches, Txs, Dirty of a record with nothing in it
		for n := range 65536 {
			if n > 300 && n%97 != 0 && n < 65500 {
				continue
			}
			b := encoded(api.Record{Kind: 7})
			checkBytes(t, "none there", b[:at]+num(n)+b[at+2:])
			checkBytes(t, "zeros there", b[:at]+num(n)+zeros[:n*2]+b[at+2:])
			checkBytes(t, "zeros there", b[:at]+num(n)+zeros[:n*6]+b[at+2:])
			checkBytes(t, "zeros there", b[:at]+num(n)+zeros[:n*10]+b[at+2:])
		}
	}
	for _, n := range []int{0, 1, 63, 64, 65, 66, 128, 255, 256, 65535} {
		b := encoded(api.Record{Kind: 7, Txs: []api.TxInfo{{}}})
		checkBytes(t, "a transaction's", b[:38]+num(n)+b[40:])
		checkBytes(t, "a transaction's", b[:38]+num(n)+zeros[:n*2]+b[40:])
		checkBytes(t, "the bytes of a patch", b[:26]+"\x00\x01\x00\x05\x00\x00"+num(n)+zeros[:n]+b[28:])
	}
}

// P1201, Get: bytes that are no record, many of them and long ones.
func TestNoRecord(t *testing.T) {
	for _, c := range []string{"\x00", "\x01", "\x07", "\xff", "\x00\x01", "\x00\x02", "\x00\x05", "\x01\x00", "text"} {
		for n := range 400 {
			checkBytes(t, "the same again", strings.Repeat(c, n))
		}
		checkNone(t, "the same again", strings.Repeat(c, 1<<20))
	}
	next := numbers(7)
	for range 20000 {
		b := make([]byte, next(200))
		for i := range b {
			b[i] = byte(next(256) * next(2) * next(2))
		}
		checkBytes(t, "any bytes", string(b))
	}
	all := encoded(greatest())
	checkNone(t, "a long rest", all+strings.Repeat("\x00", 1<<22))
	for range 3000 {
		b := []byte(all)
		b[next(len(b))] = byte(next(256))
		checkBytes(t, "a byte of the greatest", string(b))
	}
}

// P1202, Name: the seven kinds, and every other number.
func TestName(t *testing.T) {
	names := map[int]string{1: "update", 2: "undone", 3: "struct", 4: "commit", 5: "end", 6: "abort", 7: "check"}
	for _, kind := range wide() {
		if got := Name(kind); got != names[kind] {
			t.Errorf("Name(%d) = %q, want %q", kind, got, names[kind])
		}
	}
	for kind := -1000; kind <= 1000; kind++ {
		if got := Name(kind); got != names[kind] {
			t.Errorf("Name(%d) = %q, want %q", kind, got, names[kind])
		}
	}
}

func checkTouches(t *testing.T, what string, pages, want []int) {
	t.Helper()
	var r api.Record
	for _, n := range pages {
		r.Patches = append(r.Patches, api.Patch{Page: n, At: 1, Bytes: "x"})
	}
	before := slices.Clone(r.Patches)
	for _, kind := range []int{0, 1, 7, -5} {
		r.Kind = kind
		if got := Touches(r); !slices.Equal(got, want) {
			t.Errorf("%s: Touches of patches of %.100s = %v, want %v", what, fmt.Sprint(pages), got, want)
		}
	}
	if !slices.Equal(r.Patches, before) {
		t.Errorf("%s: the patches became %v", what, r.Patches)
	}
}

// P1202, Touches: the pages of the patches alone, ascending, each once.
func TestTouches(t *testing.T) {
	checkTouches(t, "none", nil, nil)
	for n := range 64 {
		checkTouches(t, "one", []int{n}, []int{n})
		checkTouches(t, "twice", []int{n, n}, []int{n})
	}
	checkTouches(t, "ascending", []int{1, 2, 3}, []int{1, 2, 3})
	checkTouches(t, "descending", []int{3, 2, 1, 0}, []int{0, 1, 2, 3})
	checkTouches(t, "apart", []int{5, 9, 5, 2, 9, 5}, []int{2, 5, 9})
	checkTouches(t, "by number, not by text", []int{10, 9, 100, 2}, []int{2, 9, 10, 100})
	r := full()
	if got := Touches(r); !slices.Equal(got, []int{0, 9, 63}) {
		t.Errorf("Touches of %s = %v", show(r), got)
	}
	r.Patches = nil
	if got := Touches(r); len(got) != 0 {
		t.Errorf("Touches of %s = %v", show(r), got)
	}
}

// P1202, Touches: every record is accepted, also one that is not Right.
func TestTouchesAny(t *testing.T) {
	want := wide()
	slices.Sort(want)
	want = slices.Compact(want)
	checkTouches(t, "wide", wide(), want)
	var many []int
	for i := range 5000 {
		many = append(many, i*37%701-20)
	}
	all := make([]int, 701)
	for i := range all {
		all[i] = i - 20
	}
	checkTouches(t, "many", many, all)
	r := api.Record{Kind: -1, Tx: -1, Patches: []api.Patch{{Page: 70}, {Page: -3, At: -1}, {Page: 2, Bytes: text(300)}, {}}}
	if got := Touches(r); !slices.Equal(got, []int{-3, 0, 2, 70}) {
		t.Errorf("Touches of %s = %v", show(r), got)
	}
}

// copied is a record with lists and texts of its own.
func copied(r api.Record) api.Record {
	r.Pages, r.Patches, r.Txs, r.Dirty = slices.Clone(r.Pages), slices.Clone(r.Patches), slices.Clone(r.Txs), slices.Clone(r.Dirty)
	for i := range r.Txs {
		r.Txs[i].Pages = slices.Clone(r.Txs[i].Pages)
	}
	return r
}

// DOC.md, rule 2: no function modifies the record that it is given.
func TestKeeps(t *testing.T) {
	for _, r := range append(samples(), api.Record{}, api.Record{Kind: 9, Pages: []int{3, 1, 2}}) {
		before := copied(r)
		Right(r)
		Put(r)
		Touches(r)
		if !equal(r, before) {
			t.Errorf("%s became %s", show(before), show(r))
		}
	}
}

// overlap reports whether two texts share memory.
func overlap(a, b string) bool {
	x, y := uintptr(unsafe.Pointer(unsafe.StringData(a))), uintptr(unsafe.Pointer(unsafe.StringData(b)))
	return len(a) > 0 && len(b) > 0 && x < y+uintptr(len(b)) && y < x+uintptr(len(a))
}

// DOC.md, rule 2: results share no memory with arguments, with one another, or within themselves.
func TestNewMemory(t *testing.T) {
	for _, want := range []api.Record{full(), greatest()} {
		b, _ := Put(want)
		r, _ := Get(b)
		texts := []string{r.Key, r.Old.Key, r.Old.Value}
		for _, p := range r.Patches {
			texts = append(texts, p.Bytes)
		}
		for _, s := range texts {
			if overlap(s, b) {
				t.Error("a text of Get shares memory with the bytes")
			}
		}
		if again, _ := Put(want); overlap(again, b) {
			t.Error("two answers of Put share memory")
		}
		for _, s := range []string{want.Key, want.Old.Key, want.Patches[0].Bytes} {
			if overlap(s, b) {
				t.Error("the answer of Put shares memory with the record")
			}
		}
		spoil(&r)
		if again, ok := Get(b); !equal(again, want) || !ok {
			t.Errorf("another Get = %s, %v", show(again), ok)
		}
	}
}

// spoil overwrites the lists of a record, and what is behind them.
func spoil(r *api.Record) {
	_ = append(r.Pages, 1, 1, 1, 1, 1, 1)
	for i := range r.Txs {
		_ = append(r.Txs[i].Pages, 1, 1, 1, 1, 1, 1)
		clear(r.Txs[i].Pages)
	}
	clear(r.Pages)
	clear(r.Patches)
	clear(r.Txs)
	clear(r.Dirty)
}

// No two lists of one answer share memory: what is written into one, or behind it, is seen in no other.
func TestApart(t *testing.T) {
	want := greatest()
	want.Txs[0].Pages = want.Txs[0].Pages[:5]
	b, _ := Put(want)
	r, _ := Get(b)
	_ = append(r.Txs[0].Pages, slices.Repeat([]int{9}, 20)...)
	clear(r.Txs[1].Pages)
	clear(r.Pages)
	want.Txs[1].Pages, want.Pages = make([]int, 64), make([]int, 64)
	if !equal(r, want) {
		t.Errorf("the record became %s", show(r))
	}
	first, second := Touches(full()), Touches(full())
	clear(first)
	if !slices.Equal(second, []int{0, 9, 63}) {
		t.Errorf("another Touches became %v", second)
	}
}

// The numbers of the limits, as the other tests have them.
func TestLimits(t *testing.T) {
	got := []int{api.MaxPages, api.MaxTx, api.PageSize, api.MaxKey, api.Inline, api.MaxValue}
	if want := []int{64, 8, 256, 16, 40, 400}; !slices.Equal(got, want) {
		t.Errorf("the limits are %v, want %v", got, want)
	}
	kinds := []int{api.Update, api.Undone, api.Struct, api.Commit, api.End, api.Abort, api.Check}
	if want := []int{1, 2, 3, 4, 5, 6, 7}; !slices.Equal(kinds, want) {
		t.Errorf("the kinds are %v, want %v", kinds, want)
	}
}

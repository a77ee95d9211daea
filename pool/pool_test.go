package pool

import (
	"fmt"
	"math"
	"reflect"
	"slices"
	"strings"
	"testing"
	"unsafe"

	"honeycomb/api"
	"honeycomb/disk"
	"honeycomb/patch"
	"honeycomb/wal"
)

// numbers is a row of numbers that look like chance and are always the same.
func numbers(seed uint32) func(below int) int {
	return func(below int) int {
		seed = seed*1664525 + 1013904223
		return int(seed>>8) % below
	}
}

// outside is what a pool reads and writes. It tells what it was asked for.
type outside struct {
	pages  map[int]string // as they were written
	refuse map[string]api.Errno
	asked  []string
}

// ask tells the call and how it is answered.
func (o *outside) ask(call string, page int) api.Errno {
	call += fmt.Sprint(page)
	o.asked = append(o.asked, call)
	return o.refuse[call]
}

// stored is a page as it was written, or as it was at first.
func (o *outside) stored(page int) string {
	if b, ok := o.pages[page]; ok {
		return b
	}
	return fmt.Sprint("at first ", page)
}

func (o *outside) read(page int) (string, api.Errno) {
	return o.stored(page), o.ask("read ", page) // bytes beside an error, which nobody may take
}

func (o *outside) write(page int, b string) api.Errno {
	e := o.ask("write ", page)
	if e == api.OK {
		o.pages[page] = b
	}
	return e
}

func (o *outside) log(lsn int) api.Errno { return o.ask("log ", lsn) }

// since tells what was asked for since the last time.
func (o *outside) since() string {
	s := strings.Join(o.asked, ", ")
	o.asked = nil
	return s
}

func newOutside() *outside {
	return &outside{pages: map[int]string{}, refuse: map[string]api.Errno{}}
}

func (o *outside) pool(frames int) *Pool { return New(frames, o.read, o.write, o.log) }

// held is a page in a frame of a story.
type held struct {
	page       int
	b          string
	dirty      bool
	first, lsn int
}

// story is a pool as the chapter tells of it: what its frames hold, and all accesses of pages there were.
type story struct {
	frames   int
	held     []*held
	accesses []int
	outside  *outside
}

func (s *story) find(page int) *held {
	for _, h := range s.held {
		if h.page == page {
			return h
		}
	}
	return nil
}

// ago tells how many accesses ago a page's last access and its last but one were.
func (s *story) ago(page int) (last, but int) {
	var l []int
	for i, n := range s.accesses {
		if n == page {
			l = append(l, len(s.accesses)-i)
		}
	}
	slices.Reverse(l)
	return append(l, math.MaxInt, math.MaxInt)[0], append(l, math.MaxInt, math.MaxInt)[1]
}

// goes tells whether a leaves its frame before b.
func (s *story) goes(a, b int) bool {
	last, but := s.ago(a)
	otherLast, otherBut := s.ago(b)
	if but != otherBut {
		return but > otherBut
	}
	return last > otherLast
}

func (s *story) flush(page int) api.Errno {
	h := s.find(page)
	if h == nil || !h.dirty {
		return api.OK
	}
	if e := s.outside.log(h.lsn); e != api.OK {
		return e
	}
	if e := s.outside.write(page, h.b); e != api.OK {
		return e
	}
	h.dirty = false
	return api.OK
}

// room provides a frame.
func (s *story) room() api.Errno {
	if len(s.held) < s.frames {
		return api.OK
	}
	at := 0
	for i, h := range s.held {
		if s.goes(h.page, s.held[at].page) {
			at = i
		}
	}
	if e := s.flush(s.held[at].page); e != api.OK {
		return e
	}
	s.held = slices.Delete(s.held, at, at+1)
	return api.OK
}

func (s *story) get(page int) (string, api.Errno) {
	if s.find(page) == nil {
		b, e := s.outside.read(page)
		if e != api.OK {
			return "", e
		}
		if e := s.room(); e != api.OK {
			return "", e
		}
		s.held = append(s.held, &held{page: page, b: b})
	}
	s.accesses = append(s.accesses, page)
	return s.find(page).b, api.OK
}

func (s *story) set(page int, b string, lsn int) api.Errno {
	if s.find(page) == nil {
		if e := s.room(); e != api.OK {
			return e
		}
		s.held = append(s.held, &held{page: page})
	}
	s.accesses = append(s.accesses, page)
	h := s.find(page)
	if !h.dirty {
		h.first = lsn
	}
	h.b, h.dirty, h.lsn = b, true, lsn
	return api.OK
}

func (s *story) all() api.Errno {
	for _, d := range s.dirty() {
		if e := s.flush(d.Page); e != api.OK {
			return e
		}
	}
	return api.OK
}

func (s *story) has() []int {
	var l []int
	for _, h := range s.held {
		l = append(l, h.page)
	}
	slices.Sort(l)
	return l
}

func (s *story) dirty() []api.DirtyInfo {
	var l []api.DirtyInfo
	for _, page := range s.has() {
		if h := s.find(page); h.dirty {
			l = append(l, api.DirtyInfo{Page: page, Lsn: h.first})
		}
	}
	return l
}

// pair is a pool and its story, each with an outside of its own.
type pair struct {
	pool    *Pool
	outside *outside
	story   *story
	calls   string // so far
}

func newPair(t *testing.T, frames int) *pair {
	t.Helper()
	o := newOutside()
	p := o.pool(frames)
	if p == nil {
		t.Fatalf("New(%d) = nil", frames)
	}
	return &pair{pool: p, outside: o, story: &story{frames: frames, outside: newOutside()}}
}

// refuse lets a call of the outside fail from now on.
func (x *pair) refuse(call string, e api.Errno) {
	x.outside.refuse[call], x.story.outside.refuse[call] = e, e
}

// allow ends all that refuse began.
func (x *pair) allow() {
	clear(x.outside.refuse)
	clear(x.story.outside.refuse)
}

// answer holds a call's answer, and all that can be told after it, against the story's.
func (x *pair) answer(t *testing.T, call string, got, want any) {
	t.Helper()
	x.calls += call + "; "
	if got != want {
		t.Fatalf("%s= %v, want %v", x.calls, got, want)
	}
	if got, want := x.outside.since(), x.story.outside.since(); got != want {
		t.Fatalf("%sasked for %q, want %q", x.calls, got, want)
	}
	if got, want := x.pool.Has(), x.story.has(); !slices.Equal(got, want) {
		t.Fatalf("%sHas = %d, want %d", x.calls, got, want)
	}
	if got, want := x.pool.Dirty(), x.story.dirty(); !slices.Equal(got, want) {
		t.Fatalf("%sDirty = %d, want %d", x.calls, got, want)
	}
}

func (x *pair) clean(t *testing.T, pages ...int) {
	t.Helper()
	for _, page := range pages {
		h := x.story.find(page)
		if want := h == nil || !h.dirty; x.pool.Clean(page) != want {
			t.Fatalf("%sClean(%d) = %v, want %v", x.calls, page, !want, want)
		}
	}
}

// answers are what Get returns, as one value.
type answers struct {
	b string
	e api.Errno
}

func (x *pair) get(t *testing.T, page int) {
	t.Helper()
	b, e := x.pool.Get(page)
	wb, we := x.story.get(page)
	x.answer(t, fmt.Sprint("Get ", page), answers{b, e}, answers{wb, we})
}

func (x *pair) set(t *testing.T, page int, b string, lsn int) {
	t.Helper()
	x.answer(t, fmt.Sprintf("Set %d %.12q %d", page, b, lsn), x.pool.Set(page, b, lsn), x.story.set(page, b, lsn))
}

func (x *pair) flush(t *testing.T, page int) {
	t.Helper()
	x.answer(t, fmt.Sprint("Flush ", page), x.pool.Flush(page), x.story.flush(page))
}

func (x *pair) all(t *testing.T) {
	t.Helper()
	x.answer(t, "All", x.pool.All(), x.story.all())
}

func checkErrno(t *testing.T, what string, got, want api.Errno) {
	t.Helper()
	if got != want {
		t.Errorf("%s = %d, want %d", what, got, want)
	}
}

func checkGet(t *testing.T, p *Pool, page int, b string, want api.Errno) {
	t.Helper()
	if got, e := p.Get(page); got != b || e != want {
		t.Errorf("Get(%d) = %q, %d, want %q, %d", page, got, e, b, want)
	}
}

func checkAsked(t *testing.T, o *outside, want string) {
	t.Helper()
	if got := o.since(); got != want {
		t.Errorf("asked for %q, want %q", got, want)
	}
}

// checkTells holds the lists of a pool, and its Clean of many pages, against what they are to be.
func checkTells(t *testing.T, p *Pool, has []int, dirty []api.DirtyInfo) {
	t.Helper()
	if got := p.Has(); !slices.Equal(got, has) {
		t.Errorf("Has = %d, want %d", got, has)
	}
	if got := p.Dirty(); !slices.Equal(got, dirty) {
		t.Errorf("Dirty = %d, want %d", got, dirty)
	}
	for page := -2; page < 100; page++ {
		want := !slices.ContainsFunc(dirty, func(d api.DirtyInfo) bool { return d.Page == page })
		if got := p.Clean(page); got != want {
			t.Errorf("Clean(%d) = %v", page, got)
		}
	}
}

// The chapter's examples.
func TestExamples(t *testing.T) {
	o := newOutside()
	p := o.pool(2)
	checkErrno(t, "Set", p.Set(3, "b", 7), api.OK)
	checkErrno(t, "Set", p.Set(3, "c", 9), api.OK)
	checkTells(t, p, []int{3}, []api.DirtyInfo{{Page: 3, Lsn: 7}})
	checkErrno(t, "Flush", p.Flush(77), api.OK)
	checkAsked(t, o, "")
}

// P1501, New: how many frames there may be, and that each function must be there.
func TestNew(t *testing.T) {
	o := newOutside()
	for frames := -20; frames < 40; frames++ {
		if p := o.pool(frames); (p != nil) != (frames >= 1 && frames <= 16) {
			t.Errorf("New(%d) = %v", frames, p)
		}
	}
	for _, frames := range []int{math.MinInt, math.MinInt32, 1 << 32, 1<<32 + 6, 1 << 62, math.MaxInt} {
		if p := o.pool(frames); p != nil {
			t.Errorf("New(%d) = %v", frames, p)
		}
	}
	var r Read
	var w Write
	var l Log
	for _, p := range []*Pool{
		New(6, nil, o.write, o.log), New(6, o.read, nil, o.log), New(6, o.read, o.write, nil),
		New(6, r, o.write, o.log), New(6, o.read, w, o.log), New(6, o.read, o.write, l),
		New(6, nil, nil, nil),
	} {
		if p != nil {
			t.Errorf("New without a function = %v", p)
		}
	}
	checkAsked(t, o, "")
	checkTells(t, o.pool(6), nil, nil)
}

// P1501, New: as many frames as it was told, and each of them is empty at first.
func TestFrames(t *testing.T) {
	for frames := 1; frames <= 16; frames++ {
		o := newOutside()
		p := o.pool(frames)
		var has []int
		for page := range frames {
			checkGet(t, p, page, fmt.Sprint("at first ", page), api.OK)
			has = append(has, page)
			checkTells(t, p, has, nil)
		}
		checkGet(t, p, 30, "at first 30", api.OK)
		checkTells(t, p, append(has[1:], 30), nil)
	}
}

// P1501, Get: r is called only for a page that is in no frame.
func TestGet(t *testing.T) {
	o := newOutside()
	p := o.pool(2)
	checkGet(t, p, 5, "at first 5", api.OK)
	checkAsked(t, o, "read 5")
	o.pages[5] = "something else"
	checkGet(t, p, 5, "at first 5", api.OK)
	checkAsked(t, o, "")
	checkTells(t, p, []int{5}, nil)
	p.Set(5, "now", 3)
	checkGet(t, p, 5, "now", api.OK)
	p.Flush(5)
	checkGet(t, p, 5, "now", api.OK)
	checkAsked(t, o, "log 3, write 5")
	checkGet(t, p, 6, "at first 6", api.OK)
	checkGet(t, p, 7, "at first 7", api.OK) // in the frame of 6
	checkGet(t, p, 8, "at first 8", api.OK)
	checkGet(t, p, 6, "at first 6", api.OK)
	checkAsked(t, o, "read 6, read 7, read 8, read 6")
}

// P1501, Get: the errors in their order; nothing changes, and beside an error are no bytes.
func TestGetRefused(t *testing.T) {
	for _, x := range []struct {
		refuse, asked string
		want          api.Errno
	}{
		{"read 9", "read 9", api.ErrRange},
		{"log 4", "read 9, log 4", api.ErrDead},
		{"write 1", "read 9, log 4, write 1", api.ErrForm},
	} {
		o := newOutside()
		p := o.pool(2)
		p.Set(1, "a", 3)
		p.Set(1, "b", 4)
		p.Set(2, "c", 5)
		p.Set(2, "d", 6)
		o.refuse[x.refuse] = x.want
		for range 3 {
			checkGet(t, p, 9, "", x.want)
			checkAsked(t, o, x.asked)
			checkTells(t, p, []int{1, 2}, []api.DirtyInfo{{Page: 1, Lsn: 3}, {Page: 2, Lsn: 5}})
		}
		clear(o.refuse)
		checkGet(t, p, 9, "at first 9", api.OK)
		checkAsked(t, o, "read 9, log 4, write 1")
		checkTells(t, p, []int{2, 9}, []api.DirtyInfo{{Page: 2, Lsn: 5}})
		checkGet(t, p, 2, "d", api.OK)
	}
	o := newOutside()
	p := o.pool(2)
	for _, call := range []string{"read 9", "log 4", "write 1"} { // all at once
		o.refuse[call] = api.Errno(len(call))
	}
	p.Set(1, "b", 4)
	p.Set(2, "d", 6)
	checkGet(t, p, 9, "", api.Errno(len("read 9")))
	checkAsked(t, o, "read 9")
}

// P1501, Set: whatever the page, the bytes and the lsn are; r is not called.
func TestSet(t *testing.T) {
	o := newOutside()
	p := o.pool(16)
	var has []int
	var dirty []api.DirtyInfo
	l := []int{math.MinInt, -1, 0, 1, 63, 64, 1 << 32, math.MaxInt}
	for i, page := range l {
		lsn := l[len(l)-1-i]
		b := strings.Repeat("b", i*70)
		checkErrno(t, "Set", p.Set(page, b, lsn), api.OK)
		checkGet(t, p, page, b, api.OK)
		if p.Clean(page) {
			t.Errorf("page %d is clean", page)
		}
		has = append(has, page)
		dirty = append(dirty, api.DirtyInfo{Page: page, Lsn: lsn})
		if got := p.Has(); !slices.Equal(got, has) {
			t.Errorf("Has = %d, want %d", got, has)
		}
		if got := p.Dirty(); !slices.Equal(got, dirty) {
			t.Errorf("Dirty = %d, want %d", got, dirty)
		}
	}
	checkAsked(t, o, "")
	for i, page := range l {
		checkErrno(t, "Flush", p.Flush(page), api.OK)
		checkAsked(t, o, fmt.Sprintf("log %d, write %d", l[len(l)-1-i], page))
		if b := strings.Repeat("b", i*70); o.pages[page] != b {
			t.Errorf("page %d became %q", page, o.pages[page])
		}
	}
	checkErrno(t, "Set of the same bytes", p.Set(1, p.frames[1].bytes, 9), api.OK)
	checkTells(t, p, has, []api.DirtyInfo{{Page: 1, Lsn: 9}})
}

// P1501, Set: an error of emptying a frame; nothing changes.
func TestSetRefused(t *testing.T) {
	for _, refuse := range []string{"log 4", "write 1"} {
		o := newOutside()
		p := o.pool(2)
		p.Set(1, "b", 4)
		p.Set(2, "d", 6)
		o.refuse[refuse] = api.ErrDead
		for range 3 {
			checkErrno(t, "Set", p.Set(9, "e", 7), api.ErrDead)
			checkTells(t, p, []int{1, 2}, []api.DirtyInfo{{Page: 1, Lsn: 4}, {Page: 2, Lsn: 6}})
		}
		checkErrno(t, "Set of a page in a frame", p.Set(1, "f", 8), api.OK) // it needs no other one
		checkGet(t, p, 1, "f", api.OK)
		o.since()
		clear(o.refuse)
		checkErrno(t, "Set", p.Set(9, "e", 7), api.OK)
		checkAsked(t, o, "log 6, write 2")
		checkTells(t, p, []int{1, 9}, []api.DirtyInfo{{Page: 1, Lsn: 4}, {Page: 9, Lsn: 7}})
	}
}

// P1501, Set: since when a page is dirty, and P1502, Flush: up to where the log is written.
func TestSince(t *testing.T) {
	o := newOutside()
	p := o.pool(3)
	checkSince := func(since int) {
		t.Helper()
		checkTells(t, p, []int{3}, []api.DirtyInfo{{Page: 3, Lsn: since}})
	}
	p.Get(3)
	o.since()
	checkTells(t, p, []int{3}, nil)
	p.Set(3, "a", 7)
	p.Set(3, "b", 5) // the last one, not the greatest
	checkSince(7)
	p.Get(3)
	checkSince(7)
	p.Flush(3)
	checkAsked(t, o, "log 5, write 3")
	checkTells(t, p, []int{3}, nil)
	p.Set(3, "c", 6)
	p.Set(3, "d", 8)
	p.Set(3, "e", 9)
	checkSince(6)
	o.refuse["log 9"] = api.ErrDead
	checkErrno(t, "Flush", p.Flush(3), api.ErrDead)
	p.Set(3, "f", 11)
	checkSince(6) // it was not clean between
	checkErrno(t, "Flush", p.Flush(3), api.OK)
	checkAsked(t, o, "log 9, log 11, write 3")
	p.Set(3, "g", 0)
	p.Set(3, "h", 12)
	checkSince(0)
	p.All()
	checkTells(t, p, []int{3}, nil)
	p.Set(3, "i", 13)
	for _, page := range []int{4, 4, 5, 5, 6} { // out of its frame, and written by that
		p.Get(page)
	}
	o.since()
	checkTells(t, p, []int{4, 5, 6}, nil)
	p.Set(3, "j", 20)
	checkTells(t, p, []int{3, 4, 5}, []api.DirtyInfo{{Page: 3, Lsn: 20}})
}

// accesses are pages that are gotten, one by one.
func accesses(p *Pool, pages ...int) {
	for _, page := range pages {
		p.Get(page)
	}
}

// checkLeaves holds the page that leaves its frame for another one against what it is to be.
func checkLeaves(t *testing.T, p *Pool, page, want int) {
	t.Helper()
	before := p.Has()
	p.Get(page)
	after := p.Has()
	left := slices.DeleteFunc(before, func(n int) bool { return slices.Contains(after, n) })
	if !slices.Equal(left, []int{want}) {
		t.Errorf("for page %d, %d left, want %d", page, left, want)
	}
}

// P1501, providing a frame: the last access but one counts, then the last one.
func TestLeaves(t *testing.T) {
	for _, x := range []struct {
		accesses []int
		want     int
	}{
		{[]int{1, 2, 3}, 1},                   // only one access each
		{[]int{3, 2, 1}, 3},                   // whatever their numbers are
		{[]int{1, 1, 2, 3}, 2},                // one that has two stays
		{[]int{1, 1, 2, 2, 3}, 3},             // though its last one is the longest ago
		{[]int{2, 3, 3, 1, 1}, 2},             // or the one of the other is
		{[]int{1, 1, 2, 2, 3, 3}, 1},          // two each
		{[]int{1, 2, 3, 3, 2, 1}, 1},          // the last but one, not the last
		{[]int{1, 2, 3, 1, 3, 2}, 1},          // whichever the last is
		{[]int{1, 2, 3, 1, 1, 3, 2}, 2},       // of more than two, the last but one
		{[]int{1, 1, 1, 1, 2, 3, 2, 3, 1}, 1}, // not how many they are
		{[]int{1, 1, 1, 1, 2, 3, 2, 3, 1, 1}, 2},
	} {
		p := newOutside().pool(3)
		accesses(p, x.accesses...)
		checkLeaves(t, p, 9, x.want)
	}
}

// P1501, accesses: each Set is one, too; Flush, All and what only tells are none.
func TestAccesses(t *testing.T) {
	o := newOutside()
	p := o.pool(2)
	p.Set(1, "a", 1)
	p.Set(1, "b", 2)
	p.Set(2, "c", 3)
	for range 3 {
		p.Flush(2)
		p.All()
		p.Dirty()
		p.Clean(2)
		p.Has()
	}
	checkLeaves(t, p, 3, 2)
	checkLeaves(t, p, 4, 3)
	p.Set(4, "d", 4)
	checkLeaves(t, p, 5, 1)
	p.Set(5, "e", 5)
	p.Set(4, "f", 6)
	checkLeaves(t, p, 6, 4) // its last but one was before those of 5
}

// P1501, accesses: a Get or a Set with an error is none.
func TestNoAccesses(t *testing.T) {
	for _, refuse := range []string{"read 3", "log 7", "write 1"} {
		o := newOutside()
		p := o.pool(2)
		p.Set(1, "a", 7)
		p.Get(2)
		p.Get(2)
		o.refuse[refuse] = api.ErrDead
		for range 3 {
			checkGet(t, p, 3, "", api.ErrDead)
			if refuse != "read 3" {
				checkErrno(t, "Set", p.Set(3, "b", 8), api.ErrDead)
			}
		}
		clear(o.refuse)
		checkLeaves(t, p, 3, 1)
		checkLeaves(t, p, 4, 3)
	}
}

// P1501, accesses: every one is of its page, also one before the page was out of its frame.
func TestAccessesBefore(t *testing.T) {
	p := newOutside().pool(2)
	accesses(p, 1, 1, 2) // 1 at 1 and 2, 2 at 3
	checkLeaves(t, p, 3, 2)
	checkLeaves(t, p, 2, 3) // 2 at 3 and 5
	checkLeaves(t, p, 4, 1)
	checkLeaves(t, p, 3, 4) // 3 at 4 and 7
	checkLeaves(t, p, 4, 2) // 4 at 6 and 8
	checkLeaves(t, p, 1, 3) // 1 at 2 and 9
	checkLeaves(t, p, 5, 1)
}

// P1501, providing a frame: a dirty page is written first, a clean one is not, and it comes back as it was written.
func TestEmptying(t *testing.T) {
	o := newOutside()
	p := o.pool(1)
	p.Set(1, "a", 3)
	p.Set(1, "b", 4)
	checkGet(t, p, 2, "at first 2", api.OK)
	checkAsked(t, o, "read 2, log 4, write 1")
	checkErrno(t, "Set", p.Set(3, "c", 5), api.OK)
	checkAsked(t, o, "")
	checkErrno(t, "Set", p.Set(1, "d", 6), api.OK)
	checkAsked(t, o, "log 5, write 3")
	checkGet(t, p, 3, "c", api.OK)
	checkAsked(t, o, "read 3, log 6, write 1")
	checkGet(t, p, 1, "d", api.OK)
	checkAsked(t, o, "read 1")
	checkTells(t, p, []int{1}, nil)
}

// P1502, Flush: the log, then the page; an error of one of them leaves the page dirty.
func TestFlush(t *testing.T) {
	o := newOutside()
	p := o.pool(3)
	p.Get(2)
	p.Set(1, "a", 3)
	p.Set(1, "b", 4)
	p.Set(5, "c", 6)
	o.since()
	dirty := []api.DirtyInfo{{Page: 1, Lsn: 3}, {Page: 5, Lsn: 6}}
	for _, page := range []int{2, 0, 3, 4, 6, -1, math.MaxInt, math.MinInt} {
		checkErrno(t, "Flush", p.Flush(page), api.OK)
		checkTells(t, p, []int{1, 2, 5}, dirty)
	}
	checkAsked(t, o, "")
	for range 2 {
		o.refuse["log 4"], o.refuse["write 1"] = api.ErrLog, api.ErrDead
		checkErrno(t, "Flush", p.Flush(1), api.ErrLog)
		checkAsked(t, o, "log 4")
		checkTells(t, p, []int{1, 2, 5}, dirty)
		delete(o.refuse, "log 4")
		checkErrno(t, "Flush", p.Flush(1), api.ErrDead)
		checkAsked(t, o, "log 4, write 1")
		checkTells(t, p, []int{1, 2, 5}, dirty)
	}
	clear(o.refuse)
	checkErrno(t, "Flush", p.Flush(1), api.OK)
	checkAsked(t, o, "log 4, write 1")
	checkTells(t, p, []int{1, 2, 5}, dirty[1:])
	if o.pages[1] != "b" || len(o.pages) != 1 {
		t.Errorf("the pages became %v", o.pages)
	}
	checkErrno(t, "Flush", p.Flush(1), api.OK)
	checkAsked(t, o, "")
	checkGet(t, p, 1, "b", api.OK)
	checkAsked(t, o, "")
}

// P1502, All: in ascending order, up to the first error.
func TestAll(t *testing.T) {
	for _, x := range []struct {
		refuse, asked string
		want          api.Errno
		dirty         []int
	}{
		{"read 2", "log 4, write -3, log 3, write 1, log 2, write 5, log 1, write 9", api.OK, nil},
		{"log 4", "log 4", api.ErrLog, []int{-3, 1, 5, 9}},
		{"write -3", "log 4, write -3", api.ErrDead, []int{-3, 1, 5, 9}},
		{"log 3", "log 4, write -3, log 3", api.ErrDead, []int{1, 5, 9}},
		{"write 5", "log 4, write -3, log 3, write 1, log 2, write 5", api.ErrRange, []int{5, 9}},
		{"write 9", "log 4, write -3, log 3, write 1, log 2, write 5, log 1, write 9", api.ErrForm, []int{9}},
	} {
		o := newOutside()
		p := o.pool(6)
		p.Get(2)
		for i, page := range []int{9, 5, 1, -3} {
			p.Set(page, "x", i+1)
		}
		p.Get(7)
		o.since()
		o.refuse[x.refuse] = x.want
		checkErrno(t, "All", p.All(), x.want)
		checkAsked(t, o, x.asked)
		var dirty []int
		for _, d := range p.Dirty() {
			dirty = append(dirty, d.Page)
		}
		if !slices.Equal(dirty, x.dirty) {
			t.Errorf("%d are dirty, want %d", dirty, x.dirty)
		}
		clear(o.refuse)
		checkErrno(t, "All", p.All(), api.OK)
		o.since()
		checkTells(t, p, []int{-3, 1, 2, 5, 7, 9}, nil)
		checkErrno(t, "All", p.All(), api.OK)
		checkAsked(t, o, "")
	}
	o := newOutside()
	checkErrno(t, "All of an empty pool", o.pool(6).All(), api.OK)
	checkAsked(t, o, "")
}

// P1502: a nil Pool, and a zero one, which behaves like it.
func TestNilAndZero(t *testing.T) {
	for _, p := range []*Pool{nil, {}, New(0, newOutside().read, newOutside().write, newOutside().log)} {
		for _, page := range []int{-1, 0, 1, 64, math.MaxInt} {
			checkGet(t, p, page, "", api.ErrState)
			checkErrno(t, "Set", p.Set(page, "b", page), api.ErrState)
			checkErrno(t, "Flush", p.Flush(page), api.ErrState)
			checkErrno(t, "All", p.All(), api.ErrState)
			checkTells(t, p, nil, nil)
		}
	}
}

// P1501 and P1502: two pools of the same functions do not touch one another.
func TestSeveralPools(t *testing.T) {
	o := newOutside()
	a, b := o.pool(2), o.pool(2)
	a.Set(1, "a", 1)
	b.Set(1, "b", 2)
	b.Set(2, "c", 3)
	checkTells(t, a, []int{1}, []api.DirtyInfo{{Page: 1, Lsn: 1}})
	checkTells(t, b, []int{1, 2}, []api.DirtyInfo{{Page: 1, Lsn: 2}, {Page: 2, Lsn: 3}})
	checkErrno(t, "All", a.All(), api.OK)
	checkAsked(t, o, "log 1, write 1")
	checkGet(t, b, 1, "b", api.OK)
	checkTells(t, b, []int{1, 2}, []api.DirtyInfo{{Page: 1, Lsn: 2}, {Page: 2, Lsn: 3}})
}

// step makes the call with this number, of all calls with some pages.
func (x *pair) step(t *testing.T, call, pages, lsn int) {
	t.Helper()
	page := call / 3
	switch {
	case page == pages:
		x.all(t)
	case call%3 == 0:
		x.get(t, page)
	case call%3 == 1:
		x.set(t, page, fmt.Sprint("set ", lsn), lsn)
	default:
		x.flush(t, page)
	}
	for page := range pages {
		x.clean(t, page)
	}
}

// P1501 and P1502: every order of a few calls, held against the story.
func TestEveryOrder(t *testing.T) {
	for _, x := range []struct{ frames, pages, calls int }{{1, 2, 5}, {2, 3, 5}, {3, 4, 4}} {
		choices := 3*x.pages + 1
		orders := 1
		for range x.calls {
			orders *= choices
		}
		for order := range orders {
			p := newPair(t, x.frames)
			for i, rest := 0, order; i < x.calls; i, rest = i+1, rest/choices {
				p.step(t, rest%choices, x.pages, i+1)
			}
		}
	}
}

// P1501: every order of accesses of a few pages more than there are frames.
func TestEveryOrderOfAccesses(t *testing.T) {
	for _, x := range []struct{ frames, pages, calls int }{{1, 3, 7}, {2, 4, 7}, {3, 4, 7}, {3, 5, 6}} {
		orders := 1
		for range x.calls {
			orders *= x.pages
		}
		for order := range orders {
			p := newPair(t, x.frames)
			for i, rest := 0, order; i < x.calls; i, rest = i+1, rest/x.pages {
				p.get(t, rest%x.pages)
			}
		}
	}
}

// someCall is a call of an outside that may fail.
func someCall(next func(int) int, pages, lsn int) string {
	switch next(3) {
	case 0:
		return fmt.Sprint("read ", next(pages))
	case 1:
		return fmt.Sprint("write ", next(pages))
	default:
		return fmt.Sprint("log ", max(0, lsn-next(12)))
	}
}

// P1501 and P1502: long stories of pools of each size, in which calls of the outside fail now and then.
func TestStories(t *testing.T) {
	next := numbers(15)
	for frames := 1; frames <= 16; frames++ {
		for _, more := range []int{1, 2, 7, 40} {
			pages := frames + more
			x := newPair(t, frames)
			lsn := 0
			for range 700 {
				switch next(12) {
				case 0:
					x.refuse(someCall(next, pages, lsn), api.Errno(1+next(13)))
				case 1:
					x.allow()
				case 2:
					x.flush(t, next(pages))
				case 3:
					x.all(t)
				case 4, 5, 6, 7:
					lsn += next(3)
					x.set(t, next(pages), fmt.Sprint("set ", lsn, next(9)), lsn-next(2))
				default:
					x.get(t, next(pages))
				}
				x.clean(t, next(pages), -1, pages)
			}
			if !reflect.DeepEqual(x.outside.pages, x.story.outside.pages) {
				t.Errorf("the pages became %v, want %v", x.outside.pages, x.story.outside.pages)
			}
		}
	}
}

// P1501: a Read that sets the page that it is to read.
func TestReadCallsPool(t *testing.T) {
	o := newOutside()
	var p *Pool
	p = New(2, func(page int) (string, api.Errno) {
		p.Set(page, "set by Read", 9)
		return o.read(page)
	}, o.write, o.log)
	checkGet(t, p, 5, "set by Read", api.OK)
	checkTells(t, p, []int{5}, []api.DirtyInfo{{Page: 5, Lsn: 9}})
}

// P1501: a Write that fills the frame that is emptied by it, with the page that needs it or with another one.
func TestWriteCallsPool(t *testing.T) {
	for _, page := range []int{2, 3} {
		o := newOutside()
		var p *Pool
		p = New(1, o.read, func(n int, b string) api.Errno {
			e := o.write(n, b)
			if n == 1 && len(o.pages) == 1 && len(o.asked) == 2 { // once
				p.Get(page)
			}
			return e
		}, o.log)
		p.Set(1, "a", 7)
		checkErrno(t, "Set", p.Set(2, "b", 8), api.OK)
		checkTells(t, p, []int{2}, []api.DirtyInfo{{Page: 2, Lsn: 8}})
		checkGet(t, p, 2, "b", api.OK)
		checkAsked(t, o, fmt.Sprintf("log 7, write 1, read %d, log 7, write 1", page))
	}
}

// P1502: a Log that empties the frames whose pages All is to write.
func TestLogCallsPool(t *testing.T) {
	o := newOutside()
	var p *Pool
	inside := false
	p = New(2, o.read, o.write, func(lsn int) api.Errno {
		if !inside {
			inside = true
			accesses(p, 3, 4, 3, 4, 5)
		}
		return o.log(lsn)
	})
	p.Set(1, "a", 7)
	p.Set(2, "b", 8)
	checkErrno(t, "All", p.All(), api.OK)
	has := p.Has()
	checkTells(t, p, has, nil)
	if len(has) > 2 {
		t.Errorf("Has = %d", has)
	}
	if o.pages[1] != "a" || o.pages[2] != "b" {
		t.Errorf("the pages became %v", o.pages)
	}
}

// pages are those of a disk, behind a log.
type pages struct {
	t    *testing.T
	disk *disk.Disk
	log  *wal.Log
	at   map[int]int // of a page: the LSN of its last Set
}

const (
	logSectors = 1200
	diskPages  = 9
)

func (w *pages) read(page int) (string, api.Errno) {
	all := ""
	for n := range 4 {
		b, e := w.disk.Read(logSectors + 4*page + n)
		if e != api.OK {
			return "", e
		}
		all += b
	}
	return all, api.OK
}

// write writes a page, if the log has what it needs of it.
func (w *pages) write(page int, b string) api.Errno {
	if w.log.Durable() < w.at[page] {
		w.t.Errorf("page %d of record %d is written when %d are durable", page, w.at[page], w.log.Durable())
	}
	if r, _ := w.log.At(w.at[page]); r.Patches[0].Bytes != b {
		w.t.Errorf("page %d is not that of record %d", page, w.at[page])
	}
	for n := range 4 {
		if e := w.disk.Write(logSectors+4*page+n, b[n*64:(n+1)*64]); e != api.OK {
			return e
		}
	}
	return w.disk.Sync()
}

// version is a page whose sectors all tell where they belong.
func version(page, lsn int) string {
	s := ""
	for n := range 4 {
		s += (fmt.Sprintf("sector %d of page %d of record %d", n, page, lsn) + strings.Repeat(".", 64))[:64]
	}
	return s
}

// change logs a page and sets it.
func (w *pages) change(p *Pool, page int) api.Errno {
	b := version(page, w.log.Last()+1)
	c, _ := patch.Whole(page, b)
	lsn, e := w.log.Append(api.Record{Kind: api.Struct, Patches: []api.Patch{c}})
	if e != api.OK {
		return e
	}
	before := w.at[page]
	w.at[page] = lsn
	if e := p.Set(page, b, lsn); e != api.OK {
		w.at[page] = before
		return e
	}
	return api.OK
}

// step makes one step of those that may be made, with the pool.
func (w *pages) step(p *Pool, next func(int) int) api.Errno {
	switch next(12) {
	case 0:
		return p.Flush(next(diskPages))
	case 1:
		return p.All()
	case 2, 3, 4, 5:
		page := next(diskPages)
		b, e := p.Get(page)
		if e == api.OK && w.at[page] > 0 && b != version(page, w.at[page]) {
			w.t.Errorf("Get(%d) = %q, want record %d", page, b, w.at[page])
		}
		return e
	default:
		return w.change(p, next(diskPages))
	}
}

// checkCrashed holds each sector of each page against the versions that the log has after a crash.
func (w *pages) checkCrashed() {
	w.t.Helper()
	l, e := wal.Open(w.disk, 0, logSectors, 2)
	if e != api.OK {
		w.t.Fatalf("wal.Open = %d", e)
	}
	logged := map[string]bool{strings.Repeat("\x00", 64): true}
	for lsn := 1; lsn <= l.Last(); lsn++ {
		r, _ := l.At(lsn)
		b := r.Patches[0].Bytes
		for n := range 4 {
			logged[b[n*64:(n+1)*64]] = true
		}
	}
	for page := range diskPages {
		b, e := w.read(page)
		if e != api.OK {
			w.t.Fatalf("page %d: %d", page, e)
		}
		for n := range 4 {
			if s := b[n*64 : (n+1)*64]; !logged[s] {
				w.t.Errorf("%q is not in the log, which ends at %d", s, l.Last())
			}
		}
	}
}

// P1503: with a real disk and a real log, stopped at every one of many writes.
func TestLogFirst(t *testing.T) {
	for stop := range 240 {
		next := numbers(uint32(stop))
		d := disk.New(logSectors + 4*diskPages)
		l, e := wal.Open(d, 0, logSectors, 1)
		if e != api.OK {
			t.Fatalf("wal.Open = %d", e)
		}
		w := &pages{t: t, disk: d, log: l, at: map[int]int{}}
		p := New(1+stop%6, w.read, w.write, l.To)
		d.Stop(stop)
		e = api.OK
		for i := 0; i < 1000 && e == api.OK; i++ {
			e = w.step(p, next)
		}
		if e != api.ErrDead {
			t.Fatalf("stopped at write %d: %d", stop, e)
		}
		for page := range diskPages { // what is in memory is as it was
			if slices.Contains(p.Has(), page) {
				if b, e := p.Get(page); e != api.OK || w.at[page] > 0 && b != version(page, w.at[page]) {
					t.Errorf("Get(%d) = %q, %d, want record %d", page, b, e, w.at[page])
				}
			}
		}
		checkErrno(t, "All of a dead machine", p.All(), deadIf(len(p.Dirty()) > 0))
		keep := make([]bool, d.Pending())
		for i := range keep {
			keep[i] = next(2) == 0
		}
		d.Crash(keep...)
		w.checkCrashed()
	}
}

func deadIf(dead bool) api.Errno {
	if dead {
		return api.ErrDead
	}
	return api.OK
}

// overlap reports whether two texts share memory.
func overlap(a, b string) bool {
	x, y := uintptr(unsafe.Pointer(unsafe.StringData(a))), uintptr(unsafe.Pointer(unsafe.StringData(b)))
	return len(a) > 1 && len(b) > 1 && x < y+uintptr(len(b)) && y < x+uintptr(len(a)) // those of one byte are never made
}

// DOC.md, rule 2: what Get returns shares no memory with what Set or r gave, nor with what it returned before.
func TestNewMemory(t *testing.T) {
	o := newOutside()
	o.pages[1], o.pages[2] = strings.Repeat("one ", 64), strings.Repeat("two ", 64)
	p := o.pool(2)
	given := strings.Repeat("three ", 40)
	p.Set(3, given, 1)
	texts := []string{o.pages[1], o.pages[2], given}
	add := func(page int) {
		b, _ := p.Get(page)
		for i, s := range texts {
			if overlap(b, s) {
				t.Errorf("page %d shares the memory of text %d", page, i)
			}
		}
		texts = append(texts, b)
	}
	for _, page := range []int{3, 3, 1, 1, 2, 3, 1, 2} {
		add(page)
	}
	p.Set(2, given, 2)
	p.Set(1, texts[3], 3)
	for range 2 {
		add(1)
		add(2)
		p.All()
	}
	for _, f := range p.frames { // nor are they kept
		if overlap(f.bytes, given) || overlap(f.bytes, texts[3]) {
			t.Error("the bytes that were given are kept")
		}
	}
	p = o.pool(2)
	r, _ := o.read(4)
	p = New(2, func(int) (string, api.Errno) { return r, api.OK }, o.write, o.log)
	p.Get(4)
	if overlap(p.frames[4].bytes, r) {
		t.Error("the bytes that were read are kept")
	}
}

// DOC.md, rule 2: the lists are new ones each time.
func TestNewLists(t *testing.T) {
	p := newOutside().pool(4)
	for page := range 3 {
		p.Set(page, "b", page+1)
	}
	clear(p.Has())
	clear(p.Dirty())
	_ = append(p.Has()[:1], 77, 78)
	_ = append(p.Dirty()[:1], api.DirtyInfo{}, api.DirtyInfo{})
	checkTells(t, p, []int{0, 1, 2}, []api.DirtyInfo{{Page: 0, Lsn: 1}, {Page: 1, Lsn: 2}, {Page: 2, Lsn: 3}})
}

// The numbers of the limits, as the other tests have them.
func TestLimits(t *testing.T) {
	if api.MaxFrames != 16 || api.Sector != 64 || api.PageSize != 256 {
		t.Errorf("the limits are %d, %d, %d", api.MaxFrames, api.Sector, api.PageSize)
	}
}

package disk

import (
	"fmt"
	"math"
	"slices"
	"strings"
	"testing"

	"honeycomb/api"
)

// full is a sector that is full of one byte.
func full(c byte) string { return strings.Repeat(string([]byte{c}), api.Sector) }

var zero = full(0)

// outside are numbers of sectors that a disk of n sectors does not have.
func outside(n int) []int { return []int{-1, n, n + 1, -n, math.MaxInt, math.MinInt} }

// unfit are bytes that do not make a sector.
func unfit() []string {
	return []string{"", "x", full('x')[1:], full('x') + "x", full('x') + full('x'), strings.Repeat("x", 256), strings.Repeat("é", api.Sector)}
}

func checkRead(t *testing.T, what string, d *Disk, n int, want string) {
	t.Helper()
	for range 2 { // the second time too: Read changes nothing
		if got, e := d.Read(n); got != want || e != api.OK {
			t.Errorf("%s: Read(%d) = %.8q, %d, want %.8q, OK", what, n, got, e, want)
		}
	}
}

func checkSectors(t *testing.T, what string, d *Disk, want ...string) {
	t.Helper()
	for n, w := range want {
		checkRead(t, what, d, n, w)
	}
	if n := d.Sectors(); n != len(want) {
		t.Errorf("%s: Sectors() = %d, want %d", what, n, len(want))
	}
}

func checkErr(t *testing.T, what string, got, want api.Errno) {
	t.Helper()
	if got != want {
		t.Errorf("%s: error %d, want %d", what, got, want)
	}
}

func checkState(t *testing.T, what string, d *Disk, dead bool, pending int) {
	t.Helper()
	for range 2 {
		if d.Dead() != dead || d.Pending() != pending {
			t.Errorf("%s: Dead() = %v, Pending() = %d, want %v, %d", what, d.Dead(), d.Pending(), dead, pending)
		}
	}
}

func checkCrash(t *testing.T, what string, d *Disk, want int, keep ...bool) {
	t.Helper()
	given := slices.Clone(keep)
	if got := d.Crash(keep...); got != want {
		t.Errorf("%s: Crash(%v) = %d, want %d", what, given, got, want)
	}
	if !slices.Equal(keep, given) {
		t.Errorf("%s: Crash changed %v to %v", what, given, keep)
	}
	checkState(t, what+", after Crash", d, false, 0)
}

// checkRefused holds what a machine that has stopped, or no disk, says to Read, Write and Sync, whatever the arguments.
func checkRefused(t *testing.T, what string, d *Disk) {
	t.Helper()
	pending := d.Pending()
	for _, n := range append(outside(d.Sectors()), 0) {
		b, e := d.Read(n)
		if b != "" || e != api.ErrDead {
			t.Errorf("%s: Read(%d) = %.8q, %d, want nothing, ErrDead", what, n, b, e)
		}
		for _, b := range append(unfit(), full('!')) {
			checkErr(t, what+", Write", d.Write(n, b), api.ErrDead)
		}
	}
	checkErr(t, what+", Sync", d.Sync(), api.ErrDead)
	checkState(t, what, d, true, pending)
}

// with is a disk to whose sectors these bytes were written and synced, a sector each.
func with(t *testing.T, l string) *Disk {
	t.Helper()
	d := New(len(l))
	for n := range len(l) {
		put(t, d, n, l[n])
	}
	checkErr(t, "Sync", d.Sync(), api.OK)
	return d
}

func put(t *testing.T, d *Disk, n int, c byte) {
	t.Helper()
	checkErr(t, "Write", d.Write(n, full(c)), api.OK)
}

// stopped is a disk of two sectors whose machine stopped after the pending writes of a, b and c to the sectors 0, 1 and 0.
func stopped(t *testing.T) *Disk {
	t.Helper()
	d := with(t, "xy")
	d.Stop(3)
	put(t, d, 0, 'a')
	put(t, d, 1, 'b')
	put(t, d, 0, 'c')
	checkErr(t, "the write that stops", d.Write(1, full('!')), api.ErrDead)
	return d
}

// P401, New: all bytes are 0, and the machine runs with nothing pending and no stop arranged.
func TestNew(t *testing.T) {
	for _, n := range []int{1, 2, 3, 64, 9999, 10000} {
		d := New(n)
		if d == nil {
			t.Fatalf("New(%d) = nil", n)
		}
		checkState(t, "new", d, false, 0)
		checkSectors(t, "new", d, slices.Repeat([]string{zero}, n)...)
	}
	d := New(1)
	for range 1000 {
		put(t, d, 0, 'a')
	}
	checkState(t, "no stop", d, false, 1000)
}

// P401, New: nil if the number is not 1 to 10,000.
func TestNewRefused(t *testing.T) {
	for _, n := range []int{0, -1, -10000, 10001, 20000, 1 << 32, 1<<32 + 1, math.MaxInt, math.MinInt} {
		if New(n) != nil {
			t.Errorf("New(%d) is not nil", n)
		}
	}
}

// P401, Write and Read: what was last written to the sector, and no other one is touched.
func TestWriteRead(t *testing.T) {
	d := New(4)
	put(t, d, 1, 'a')
	checkSectors(t, "pending", d, zero, full('a'), zero, zero)
	put(t, d, 3, 'b')
	put(t, d, 1, 'c')
	put(t, d, 0, 'd')
	checkSectors(t, "pending again", d, full('d'), full('c'), zero, full('b'))
	checkErr(t, "Sync", d.Sync(), api.OK)
	checkSectors(t, "synced", d, full('d'), full('c'), zero, full('b'))
	put(t, d, 1, 'e')
	put(t, d, 2, 'e')
	put(t, d, 2, 0)
	checkSectors(t, "some pending", d, full('d'), full('e'), zero, full('b'))
}

// P401, Write and Read: a sector may hold any bytes, each in its place.
func TestWriteAnyBytes(t *testing.T) {
	d := New(4)
	var want []string
	for n := range 4 {
		var b []byte
		for i := range api.Sector {
			b = append(b, byte(n*api.Sector+i))
		}
		want = append(want, string(b))
		checkErr(t, "Write", d.Write(n, string(b)), api.OK)
	}
	checkSectors(t, "bytes", d, want...)
	text := strings.Repeat("é", api.Sector/2) // what counts is bytes, not characters
	checkErr(t, "Write", d.Write(0, text), api.OK)
	checkRead(t, "text", d, 0, text)
}

// P401, Write: each one is pending, one that changes nothing too.
func TestWritePending(t *testing.T) {
	d := New(2)
	for k, n := range []int{0, 0, 1, 0, 0} {
		put(t, d, n, 'a')
		checkState(t, "written", d, false, k+1)
	}
}

// P401, Read and Write: ErrRange if there is no such sector, ErrArg if b is no sector, ErrRange first; nothing changes.
func TestRefused(t *testing.T) {
	d := with(t, "ab")
	put(t, d, 1, 'c')
	for _, n := range outside(2) {
		if b, e := d.Read(n); b != "" || e != api.ErrRange {
			t.Errorf("Read(%d) = %.8q, %d, want nothing, ErrRange", n, b, e)
		}
		for _, b := range append(unfit(), full('!')) {
			checkErr(t, "Write to no sector", d.Write(n, b), api.ErrRange)
		}
	}
	for _, b := range unfit() {
		checkErr(t, "Write of no sector", d.Write(0, b), api.ErrArg)
		checkErr(t, "Write of no sector", d.Write(1, b), api.ErrArg)
	}
	checkState(t, "refused", d, false, 1)
	checkSectors(t, "refused", d, full('a'), full('c'))
	checkCrash(t, "refused", d, 1, true, true)
	checkSectors(t, "refused, after Crash", d, full('a'), full('c'))
}

// P401, Sync: all pending writes are permanent, and none is pending.
func TestSync(t *testing.T) {
	d := New(3)
	checkErr(t, "Sync of nothing", d.Sync(), api.OK)
	for k := range 6 {
		put(t, d, k%2, byte('a'+k))
	}
	checkErr(t, "Sync", d.Sync(), api.OK)
	checkState(t, "synced", d, false, 0)
	checkCrash(t, "synced", d, 0, false, false, false, false, false, false)
	checkSectors(t, "synced", d, full('e'), full('f'), zero)
	checkCrash(t, "synced", d, 0, true, true)
	checkSectors(t, "synced", d, full('e'), full('f'), zero)
}

// P401, Stop: so many writes pass, and the next one stops the machine.
func TestStop(t *testing.T) {
	for _, after := range []int{0, 1, 2, 3, 17} {
		d := with(t, "ab")
		put(t, d, 0, 'c')
		d.Stop(after)
		checkState(t, "arranged", d, false, 1)
		for k := range after {
			put(t, d, 1, byte(k))
		}
		checkState(t, "before the stop", d, false, 1+after)
		checkErr(t, "the write that stops", d.Write(0, full('!')), api.ErrDead)
		checkRefused(t, "stopped", d)
		checkState(t, "stopped", d, true, 1+after)
		want := full('b')
		if after > 0 {
			want = full(byte(after - 1))
		}
		checkCrash(t, "stopped", d, 1+after, slices.Repeat([]bool{true}, 1+after)...)
		checkSectors(t, "the write that stops has no effect", d, full('c'), want)
	}
}

// P401, Stop: only writes that are not refused count; Read and Sync go on until the machine stops.
func TestStopCounts(t *testing.T) {
	d := with(t, "ab")
	d.Stop(2)
	other := func() {
		t.Helper()
		checkErr(t, "Sync", d.Sync(), api.OK)
		checkRead(t, "running", d, 1, full('b'))
		checkErr(t, "Write of no sector", d.Write(0, "x"), api.ErrArg)
		for _, n := range outside(2) {
			checkErr(t, "Write to no sector", d.Write(n, full('!')), api.ErrRange)
		}
		checkState(t, "running", d, false, 0)
	}
	other()
	put(t, d, 0, 'c')
	other()
	put(t, d, 0, 'd')
	other() // here the next write stops the machine, but a refused one does not
	checkErr(t, "the write that stops", d.Write(0, full('!')), api.ErrDead)
	checkRefused(t, "stopped", d)
}

// P401, Write: where the machine would stop at the write, a wrong argument is told first; on a dead machine ErrDead is.
func TestStopAtRefused(t *testing.T) {
	d := with(t, "ab")
	d.Stop(0)
	checkErr(t, "no sector", d.Write(2, full('!')), api.ErrRange)
	checkErr(t, "no bytes", d.Write(0, ""), api.ErrArg)
	checkState(t, "running", d, false, 0)
	checkErr(t, "the write that stops", d.Write(0, full('!')), api.ErrDead)
	checkErr(t, "no sector", d.Write(2, full('!')), api.ErrDead)
	checkErr(t, "no bytes", d.Write(0, ""), api.ErrDead)
}

// P401, Stop: with a negative number the machine does not stop, nor soon with a great one.
func TestStopNever(t *testing.T) {
	for _, after := range []int{-1, -2, -5, math.MinInt, math.MinInt + 1, math.MaxInt, math.MaxInt - 1, 1000} {
		d := New(1)
		d.Stop(0)
		d.Stop(after)
		for range 1000 {
			put(t, d, 0, 'a')
		}
		checkState(t, "it does not stop", d, false, 1000)
	}
}

// P401, Stop: a new call replaces the previous one, and counts from then on.
func TestStopReplaced(t *testing.T) {
	for _, before := range []int{-1, 0, 1, 2, 3, 9} {
		d := New(1)
		d.Stop(9)
		put(t, d, 0, 'a')
		d.Stop(before)
		d.Stop(2)
		put(t, d, 0, 'a')
		put(t, d, 0, 'b')
		checkErr(t, "replaced", d.Write(0, full('!')), api.ErrDead)
	}
}

// P401, Stop: it has no effect on a dead machine, not after its crash either.
func TestStopDead(t *testing.T) {
	for _, after := range []int{-1, 0, 1, 5} {
		d := stopped(t)
		d.Stop(after)
		checkRefused(t, "stopped", d)
		if c := d.Copy(); !c.Dead() {
			t.Errorf("Stop(%d): a copy runs", after)
		}
		checkCrash(t, "stopped", d, 0)
		for range 9 {
			put(t, d, 0, 'a')
		}
		checkState(t, "running", d, false, 9)
	}
}

// P402, Crash: of the pending writes in their order just those remain for which keep is true, whether the machine runs or is dead.
func TestCrash(t *testing.T) {
	for _, d := range []*Disk{with(t, "xy"), stopped(t)} {
		if !d.Dead() {
			put(t, d, 0, 'a')
			put(t, d, 1, 'b')
			put(t, d, 0, 'c')
		}
		for _, c := range []struct {
			keep []bool
			kept int
			want string
		}{
			{nil, 0, "xy"},
			{[]bool{}, 0, "xy"},
			{[]bool{false}, 0, "xy"},
			{[]bool{true}, 1, "ay"},
			{[]bool{false, true}, 1, "xb"},
			{[]bool{true, true}, 2, "ab"},
			{[]bool{true, false, false}, 1, "ay"},
			{[]bool{false, false, true}, 1, "cy"},
			{[]bool{true, false, true}, 2, "cy"},
			{[]bool{false, true, true}, 2, "cb"},
			{[]bool{true, true, true}, 3, "cb"},
			{[]bool{false, false, false, true, true}, 0, "xy"},
			{[]bool{true, true, false, true, true}, 2, "ab"},
			{[]bool{true, true, true, true}, 3, "cb"},
		} {
			one := d.Copy()
			checkCrash(t, "crash", one, c.kept, c.keep...)
			checkSectors(t, fmt.Sprintf("kept %v", c.keep), one, full(c.want[0]), full(c.want[1]))
			checkCrash(t, "another crash", one, 0, true, true, true)
			checkSectors(t, fmt.Sprintf("kept %v, and all of nothing", c.keep), one, full(c.want[0]), full(c.want[1]))
		}
	}
}

// P402, Crash: where the only write to a sector is lost, its bytes are 0 again.
func TestCrashNew(t *testing.T) {
	d := New(2)
	put(t, d, 0, 'a')
	checkCrash(t, "lost", d, 0, false)
	checkSectors(t, "lost", d, zero, zero)
}

// P402, Crash: what remains is permanent, and what is written afterwards is pending on top of it.
func TestCrashGoesOn(t *testing.T) {
	d := stopped(t)
	checkCrash(t, "first", d, 1, true)
	put(t, d, 0, 'd')
	put(t, d, 1, 'e')
	checkState(t, "written", d, false, 2)
	checkSectors(t, "written", d, full('d'), full('e'))
	checkCrash(t, "second", d, 1, false, true)
	checkSectors(t, "second", d, full('a'), full('e'))
	put(t, d, 0, 'f')
	checkErr(t, "Sync", d.Sync(), api.OK)
	checkCrash(t, "third", d, 0)
	checkSectors(t, "third", d, full('f'), full('e'))
}

// P402, Crash: no stop is arranged afterwards, whether the machine had stopped or not; a new one may be.
func TestCrashNoStop(t *testing.T) {
	for _, after := range []int{0, 1, 2} {
		d := with(t, "xy")
		d.Stop(after)
		checkCrash(t, "running", d, 0)
		for range 5 {
			put(t, d, 0, 'a')
		}
		checkState(t, "no stop", d, false, 5)
		d.Stop(after)
		for range after {
			put(t, d, 0, 'b')
		}
		checkErr(t, "a new stop", d.Write(0, full('!')), api.ErrDead)
		checkState(t, "a new stop", d, true, 5+after)
	}
}

// P402: Dead, Pending and Sectors of a dead machine.
func TestDead(t *testing.T) {
	d := stopped(t)
	checkState(t, "stopped", d, true, 3)
	if n := d.Sectors(); n != 2 {
		t.Errorf("stopped: Sectors() = %d, want 2", n)
	}
}

// P402, Copy: the same contents, pending writes and arranged stop.
func TestCopy(t *testing.T) {
	for _, after := range []int{-1, 0, 1, 2} {
		d := with(t, "xyz")
		d.Stop(3)
		put(t, d, 0, 'a')
		put(t, d, 1, 'b')
		d.Stop(after)
		c := d.Copy()
		for _, one := range []*Disk{c, d, c.Copy()} {
			checkState(t, "copy", one, false, 2)
			checkSectors(t, "copy", one, full('a'), full('b'), full('z'))
			passed := 0
			for passed < 5 && one.Write(2, full('!')) == api.OK {
				passed++
			}
			if after < 0 && passed != 5 || after >= 0 && passed != after {
				t.Errorf("Stop(%d): %d writes pass", after, passed)
			}
			checkCrash(t, "copy", one, 1, false, true)
			checkSectors(t, "copy, after Crash", one, full('x'), full('b'), full('z'))
		}
	}
}

// P402, Copy: a copy of a dead machine is dead, and each of them crashes alone.
func TestCopyDead(t *testing.T) {
	d := stopped(t)
	c := d.Copy()
	checkRefused(t, "copy", c)
	checkState(t, "copy", c, true, 3)
	checkCrash(t, "copy", c, 2, true, true)
	checkRefused(t, "the other one", d)
	checkState(t, "the other one", d, true, 3)
	checkSectors(t, "copy", c, full('a'), full('b'))
	checkCrash(t, "the other one", d, 1, false, false, true)
	checkSectors(t, "the other one", d, full('c'), full('y'))
	checkSectors(t, "copy", c, full('a'), full('b'))
}

// P402, Copy: nothing that is done to one of them is seen in the other.
func TestCopyApart(t *testing.T) {
	for _, ahead := range []int{0, 1, 2, 3, 4, 5, 8} { // for any room that is left behind the pending writes
		d := with(t, "xy")
		for range ahead {
			put(t, d, 0, 'a')
		}
		c := d.Copy()
		put(t, c, 1, 'c')
		put(t, d, 1, 'd')
		checkRead(t, "copy", c, 1, full('c'))
		checkRead(t, "the other one", d, 1, full('d'))
		keep := append(make([]bool, ahead), true)
		checkCrash(t, "copy", c, 1, keep...)
		checkState(t, "the other one", d, false, ahead+1)
		checkCrash(t, "the other one", d, 1, keep...)
		checkSectors(t, "copy", c, full('x'), full('c'))
		checkSectors(t, "the other one", d, full('x'), full('d'))
		c.Stop(0)
		put(t, d, 0, 'e')
		checkErr(t, "Sync", d.Sync(), api.OK)
		checkErr(t, "the write that stops", c.Write(0, full('!')), api.ErrDead)
		checkState(t, "the other one", d, false, 0)
	}
}

// P402, the last sentence, and rule 5 of DOC.md: a zero Disk is as a nil one.
func TestNil(t *testing.T) {
	for _, d := range []*Disk{nil, {}} {
		for _, after := range []int{-1, 0, 1} {
			d.Stop(after)
			checkRefused(t, "nil", d)
			if d.Copy() != nil || d.Sectors() != 0 || d.Pending() != 0 || d.Crash() != 0 || d.Crash(true, false) != 0 {
				t.Errorf("nil: Copy, Sectors %d, Pending %d, Crash %d", d.Sectors(), d.Pending(), d.Crash(true))
			}
		}
	}
}

// plain is what the chapter says a disk is: what is permanent, and the pending writes in their order.
type plain struct {
	lasting []string
	pending []struct {
		n int
		b string
	}
	dead bool
	stop int
}

func (m *plain) read(n int) (string, api.Errno) {
	if m.dead {
		return "", api.ErrDead
	}
	if n < 0 || n >= len(m.lasting) {
		return "", api.ErrRange
	}
	for _, w := range slices.Backward(m.pending) {
		if w.n == n {
			return w.b, api.OK
		}
	}
	return m.lasting[n], api.OK
}

func (m *plain) write(n int, b string) api.Errno {
	if _, e := m.read(n); e != api.OK {
		return e
	}
	if len(b) != api.Sector {
		return api.ErrArg
	}
	if m.stop == 0 {
		m.dead = true
		return api.ErrDead
	}
	m.stop = max(m.stop-1, -1)
	m.pending = append(m.pending, struct {
		n int
		b string
	}{n, b})
	return api.OK
}

func (m *plain) sync() api.Errno {
	if m.dead {
		return api.ErrDead
	}
	m.crash(slices.Repeat([]bool{true}, len(m.pending)), m.stop)
	return api.OK
}

func (m *plain) crash(keep []bool, stop int) int {
	n := 0
	for k, w := range m.pending {
		if k < len(keep) && keep[k] {
			m.lasting[w.n] = w.b
			n++
		}
	}
	m.pending, m.dead, m.stop = nil, false, stop
	return n
}

func (m *plain) copy() *plain {
	c := *m
	c.lasting, c.pending = slices.Clone(m.lasting), slices.Clone(m.pending)
	return &c
}

// dice gives numbers from 0 to n-1 in an order that is the same in each run.
type dice uint64

func (s *dice) roll(n int) int {
	*s = *s*6364136223846793005 + 1442695040888963407
	return int(uint64(*s)>>33) % n
}

// P401 and P402: whatever is called in whatever order, the answers are those of a plain disk.
func TestLikePlain(t *testing.T) {
	for seed := range 300 {
		s := dice(seed)
		size := 1 + s.roll(4)
		m := &plain{lasting: slices.Repeat([]string{zero}, size), stop: -1}
		d := New(size)
		for step := range 150 {
			what := fmt.Sprintf("seed %d, step %d", seed, step)
			d = act(t, what, &s, m, d)
			for n := -1; n <= size; n++ {
				got, e := d.Read(n)
				want, f := m.read(n)
				if got != want || e != f {
					t.Fatalf("%s: Read(%d) = %.8q, %d, want %.8q, %d", what, n, got, e, want, f)
				}
			}
			checkState(t, what, d, m.dead, len(m.pending))
			if d.Sectors() != size {
				t.Fatalf("%s: Sectors() = %d, want %d", what, d.Sectors(), size)
			}
			if t.Failed() {
				return
			}
		}
	}
}

// act does one thing to both, and returns the disk that goes on.
func act(t *testing.T, what string, s *dice, m *plain, d *Disk) *Disk {
	t.Helper()
	n, b := s.roll(len(m.lasting)), full(byte('a'+s.roll(26)))
	switch s.roll(16) {
	case 0:
		n = -1 + (len(m.lasting)+1)*s.roll(2)
		checkErr(t, what+", Write to no sector", d.Write(n, b), m.write(n, b))
	case 1:
		b = b[s.roll(2):] + b[:s.roll(3)]
		checkErr(t, what+", Write of such a length", d.Write(n, b), m.write(n, b))
	case 2:
		checkErr(t, what+", Sync", d.Sync(), m.sync())
	case 3:
		after := s.roll(8) - 2
		d.Stop(after)
		if !m.dead {
			m.stop = after
		}
	case 4, 5:
		var keep []bool
		for range s.roll(len(m.pending) + 3) {
			keep = append(keep, s.roll(2) == 0)
		}
		checkCrash(t, what, d, m.crash(keep, -1), keep...)
	case 6: // one of the two goes on, and the other goes astray
		c := d.Copy()
		if s.roll(2) == 0 {
			c, d = d, c
		}
		act(t, what+", the other one", s, m.copy(), c)
		act(t, what+", the other one", s, m.copy(), d.Copy())
	default:
		checkErr(t, what+", Write", d.Write(n, b), m.write(n, b))
	}
	return d
}

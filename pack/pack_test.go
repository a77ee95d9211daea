package pack

import (
	"encoding/binary"
	"math"
	"strings"
	"testing"
)

func checkDone(t *testing.T, what string, w *Writer, want string, wantOk bool) {
	t.Helper()
	for range 2 { // the second time too: Done does not change the Writer
		if got, ok := w.Done(); got != want || ok != wantOk {
			t.Errorf("%s: Done gives %d bytes %.40q, %v, want %d bytes %.40q, %v", what, len(got), got, ok, len(want), want, wantOk)
		}
	}
}

// P201, Writer: a zero Writer is empty, and so is a new one each time.
func TestWriterZero(t *testing.T) {
	checkDone(t, "zero", &Writer{}, "", true)
	checkDone(t, "new", new(Writer), "", true)
	var w Writer
	w.Num(1)
	checkDone(t, "another zero", &Writer{}, "", true)
}

// P201, Num of a Writer: every number that fits two bytes, the most significant first.
func TestWriterNum(t *testing.T) {
	checkDone(t, "example", new(Writer).Num(258), "\x01\x02", true)
	for v := range 1 << 16 {
		want := binary.BigEndian.AppendUint16(nil, uint16(v))
		if got, ok := new(Writer).Num(v).Done(); got != string(want) || !ok {
			t.Fatalf("Num(%d) = %q, %v, want %q", v, got, ok, want)
		}
	}
}

func longs() []int {
	out := []int{0, 1, 255, 256, 65535, 65536, 65537, 1<<24 - 1, 1 << 24, 0x01020304, 0xfffefdfc, 1<<31 - 1, 1 << 31, 1<<32 - 2, 1<<32 - 1}
	for i := range 32 {
		out = append(out, 1<<i)
	}
	return out
}

// P201, Long of a Writer: numbers that fit four bytes, the most significant first.
func TestWriterLong(t *testing.T) {
	for _, v := range longs() {
		want := binary.BigEndian.AppendUint32(nil, uint32(v))
		if got, ok := new(Writer).Long(v).Done(); got != string(want) || !ok {
			t.Errorf("Long(%d) = %q, %v, want %q", v, got, ok, want)
		}
	}
}

func texts() []string {
	return []string{"", "a", "ab", "\x00", "\x00\x03ab", "\xff\xfe", "é", "蜂の巣", strings.Repeat("k", 255), strings.Repeat("k", 256), strings.Repeat("\xff", 400), strings.Repeat("é", 32767), strings.Repeat("x", 65535)}
}

// P201, Text of a Writer: the number of bytes, not runes, and the bytes, whatever they are.
func TestWriterText(t *testing.T) {
	for _, s := range texts() {
		want := string(binary.BigEndian.AppendUint16(nil, uint16(len(s)))) + s
		checkDone(t, "Text", new(Writer).Text(s), want, true)
	}
}

// P201: Num, Long and Text append to what was written before and return the Writer itself.
func TestWriterAppends(t *testing.T) {
	w := &Writer{}
	steps := []struct {
		do   func() *Writer
		want string
	}{
		{func() *Writer { return w.Num(258) }, "\x01\x02"},
		{func() *Writer { return w.Long(0x0a0b0c0d) }, "\x01\x02\x0a\x0b\x0c\x0d"},
		{func() *Writer { return w.Text("ab") }, "\x01\x02\x0a\x0b\x0c\x0d\x00\x02ab"},
		{func() *Writer { return w.Text("") }, "\x01\x02\x0a\x0b\x0c\x0d\x00\x02ab\x00\x00"},
		{func() *Writer { return w.Num(0) }, "\x01\x02\x0a\x0b\x0c\x0d\x00\x02ab\x00\x00\x00\x00"},
	}
	for i, s := range steps {
		if s.do() != w {
			t.Errorf("step %d does not return the Writer itself", i)
		}
		checkDone(t, "step", w, s.want, true)
	}
}

// P201, Done: what it returned stays as it is when more is written.
func TestDoneKeeps(t *testing.T) {
	w := new(Writer).Num(1)
	first, _ := w.Done()
	w.Num(2)
	second, _ := w.Done()
	w.Num(3)
	if first != "\x00\x01" || second != "\x00\x01\x00\x02" {
		t.Errorf("Done's answers became %q and %q", first, second)
	}
}

// P201, Done: after a value outside the limits, the empty string and false, whatever is written afterwards.
func TestWriterBad(t *testing.T) {
	long := strings.Repeat("a", 65536)
	for name, wrong := range map[string]func(*Writer) *Writer{
		"Num(-1)":            func(w *Writer) *Writer { return w.Num(-1) },
		"Num(65536)":         func(w *Writer) *Writer { return w.Num(65536) },
		"Num(65536+1)":       func(w *Writer) *Writer { return w.Num(65537) },
		"Num(1<<32)":         func(w *Writer) *Writer { return w.Num(1 << 32) },
		"Num(MinInt)":        func(w *Writer) *Writer { return w.Num(math.MinInt) },
		"Num(MaxInt)":        func(w *Writer) *Writer { return w.Num(math.MaxInt) },
		"Long(-1)":           func(w *Writer) *Writer { return w.Long(-1) },
		"Long(1<<32)":        func(w *Writer) *Writer { return w.Long(1 << 32) },
		"Long(1<<32+1)":      func(w *Writer) *Writer { return w.Long(1<<32 + 1) },
		"Long(MinInt)":       func(w *Writer) *Writer { return w.Long(math.MinInt) },
		"Long(MaxInt)":       func(w *Writer) *Writer { return w.Long(math.MaxInt) },
		"Text, 65536 bytes":  func(w *Writer) *Writer { return w.Text(long) },
		"Text, 131072 bytes": func(w *Writer) *Writer { return w.Text(long + long) },
		"Text, 32768 runes":  func(w *Writer) *Writer { return w.Text(strings.Repeat("é", 32768)) },
	} {
		for _, w := range []*Writer{{}, new(Writer).Num(7).Text("before")} {
			if wrong(w) != w {
				t.Errorf("%s does not return the Writer itself", name)
			}
			checkDone(t, name, w, "", false)
			for _, again := range []*Writer{w.Num(1), w.Long(2), w.Text("c"), w.Text(""), w.Num(-1), w.Num(0)} {
				if again != w {
					t.Errorf("after %s: not the Writer itself", name)
				}
				checkDone(t, "written after "+name, w, "", false)
			}
		}
	}
}

// P201: a nil Writer returns nil, and from Done the empty string and false.
func TestWriterNil(t *testing.T) {
	var w *Writer
	for _, got := range []*Writer{w.Num(1), w.Num(-1), w.Long(1), w.Long(-1), w.Text("a"), w.Text(""), w.Num(1).Long(2).Text("b")} {
		if got != nil {
			t.Errorf("a nil Writer returns %v", got)
		}
	}
	checkDone(t, "nil", w, "", false)
}

func checkState(t *testing.T, what string, r *Reader, end, bad bool) {
	t.Helper()
	for range 2 { // asking changes nothing
		if r.End() != end || r.Bad() != bad {
			t.Errorf("%s: End %v, Bad %v, want %v, %v", what, r.End(), r.Bad(), end, bad)
		}
	}
}

// P201, Num, Long and Text of a Reader: each decodes the next value, End only behind the last.
func TestReader(t *testing.T) {
	r := From("\x01\x02\x0a\x0b\x0c\x0d\x00\x02ab\x00\x00\xff\xff\xff\xff\xff\xff")
	checkState(t, "at the beginning", r, false, false)
	if got := r.Num(); got != 258 {
		t.Errorf("Num = %d", got)
	}
	if got := r.Long(); got != 0x0a0b0c0d {
		t.Errorf("Long = %#x", got)
	}
	if got := r.Text(); got != "ab" {
		t.Errorf("Text = %q", got)
	}
	if got := r.Text(); got != "" {
		t.Errorf("Text = %q, want none", got)
	}
	checkState(t, "behind an empty text", r, false, false)
	if got := r.Num(); got != 65535 {
		t.Errorf("Num = %d", got)
	}
	checkState(t, "before the last", r, false, false)
	if got := r.Long(); got != 1<<32-1 {
		t.Errorf("Long = %d", got)
	}
	checkState(t, "at the end", r, true, false)
	if got := r.Num(); got != 0 {
		t.Errorf("Num behind the end = %d", got)
	}
	checkState(t, "behind the end", r, false, true)
}

// P201: what a Writer wrote, a Reader reads.
func TestRoundTrip(t *testing.T) {
	w := &Writer{}
	for _, v := range longs() {
		w.Long(v).Num(v & 65535)
	}
	for _, s := range texts() {
		w.Text(s)
	}
	b, ok := w.Done()
	if !ok {
		t.Fatal("not written")
	}
	r := From(b)
	for _, v := range longs() {
		if got, low := r.Long(), r.Num(); got != v || low != v&65535 {
			t.Errorf("read %d and %d, want %d and %d", got, low, v, v&65535)
		}
	}
	for _, s := range texts() {
		if got := r.Text(); got != s {
			t.Errorf("read %d bytes %.20q, want %d bytes %.20q", len(got), got, len(s), s)
		}
	}
	checkState(t, "all read", r, true, false)
}

// P201: Readers of one string do not disturb each other.
func TestReadersApart(t *testing.T) {
	b := "\x00\x01\x00\x02"
	r, s := From(b), From(b)
	if r.Num() != 1 || s.Num() != 1 || r.Num() != 2 || !r.End() || s.End() || s.Num() != 2 || !s.End() {
		t.Error("two Readers of one string read as one")
	}
}

func checkStaysBad(t *testing.T, what string, r *Reader) {
	t.Helper()
	checkState(t, what, r, false, true)
	for range 2 {
		if n, l, s := r.Num(), r.Long(), r.Text(); n != 0 || l != 0 || s != "" {
			t.Errorf("%s: later reads give %d, %d, %q", what, n, l, s)
		}
		checkState(t, what+", read on", r, false, true)
	}
}

// P201: a value that is not complete makes the Reader bad from then on; this and all later reads return nothing.
func TestReaderIncomplete(t *testing.T) {
	for _, c := range []struct {
		b    string
		long bool
	}{{"", false}, {"\x01", false}, {"", true}, {"\x01", true}, {"\x01\x02", true}, {"\x01\x02\x03", true}} {
		r := From(c.b)
		read := r.Num
		if c.long {
			read = r.Long
		}
		if got := read(); got != 0 {
			t.Errorf("a number of %q: %d", c.b, got)
		}
		checkStaysBad(t, "a number not complete", r)
	}
	for _, b := range []string{"", "\x00", "\x00\x01", "\x00\x03ab", "\xff\xff" + strings.Repeat("a", 65534), "\x01\x00a"} {
		r := From(b)
		if got := r.Text(); got != "" {
			t.Errorf("Text of %.20q: %.20q", b, got)
		}
		checkStaysBad(t, "a text not complete", r)
	}
}

// P201: also when values before it were complete.
func TestReaderIncompleteLater(t *testing.T) {
	r := From("\x00\x07\x00\x02ab\x00\x02c")
	if r.Num() != 7 || r.Text() != "ab" || r.Bad() || r.Text() != "" {
		t.Error("the values before the incomplete one")
	}
	checkStaysBad(t, "behind complete values", r)
}

// P201, End and Bad: an empty string is all read, and not bad.
func TestReaderEmpty(t *testing.T) {
	checkState(t, "empty", From(""), true, false)
}

// P201: a nil Reader is bad; a zero one, which the chapter does not call ready, is as a nil one.
func TestReaderNil(t *testing.T) {
	checkStaysBad(t, "nil", nil)
	checkStaysBad(t, "zero", &Reader{})
}

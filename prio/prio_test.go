package prio

import (
	"math"
	"slices"
	"sort"
	"testing"
)

// plain is what the chapter says a queue is: a list of pairs, kept in the order in which Pop gives them.
type plain []pair

func (m *plain) push(at, id int) {
	*m = append(*m, pair{at, id})
	sort.SliceStable(*m, func(i, j int) bool {
		a, b := (*m)[i], (*m)[j]
		return a.at > b.at || a.at == b.at && a.id < b.id
	})
}

func (m plain) peek() (int, int, bool) {
	if len(m) == 0 {
		return 0, 0, false
	}
	return m[0].at, m[0].id, true
}

func (m *plain) pop() (int, int, bool) {
	at, id, ok := m.peek()
	if ok {
		*m = (*m)[1:]
	}
	return at, id, ok
}

func (m *plain) drop(id int) int {
	var kept plain
	for _, p := range *m {
		if p.id != id {
			kept = append(kept, p)
		}
	}
	n := len(*m) - len(kept)
	*m = kept
	return n
}

type answer struct {
	at, id int
	ok     bool
}

func popOf(q *Queue) answer {
	at, id, ok := q.Pop()
	return answer{at, id, ok}
}

func peekOf(q *Queue) answer {
	at, id, ok := q.Peek()
	return answer{at, id, ok}
}

// drain pops all, and one time more than there are pairs.
func drain(q *Queue) []answer {
	var out []answer
	for n := q.Len(); n >= 0; n-- {
		out = append(out, popOf(q))
	}
	return out
}

func filled(pairs ...pair) *Queue {
	q := &Queue{}
	for _, p := range pairs {
		q.Push(p.at, p.id)
	}
	return q
}

func checkDrain(t *testing.T, what string, q *Queue, want ...answer) {
	t.Helper()
	if n := q.Len(); n != len(want) {
		t.Errorf("%s: Len = %d, want %d", what, n, len(want))
	}
	want = append(want, answer{})
	if got := drain(q); !slices.Equal(got, want) {
		t.Errorf("%s: Pop gives %v, want %v", what, got, want)
	}
	if n := q.Len(); n != 0 {
		t.Errorf("%s: Len of the emptied queue = %d", what, n)
	}
}

// P301: a zero Queue is empty, and ready for use; one queue has nothing of another.
func TestZero(t *testing.T) {
	for _, q := range []*Queue{{}, new(Queue)} {
		for range 2 {
			if got := popOf(q); got != (answer{}) {
				t.Errorf("Pop = %v", got)
			}
			if got := peekOf(q); got != (answer{}) {
				t.Errorf("Peek = %v", got)
			}
			if n, d := q.Len(), q.Drop(0); n != 0 || d != 0 {
				t.Errorf("Len = %d, Drop(0) = %d", n, d)
			}
		}
		q.Push(0, 0)
		checkDrain(t, "one pair", q, answer{0, 0, true})
	}
	a, b := &Queue{}, &Queue{}
	a.Push(1, 2)
	checkDrain(t, "the other", b)
	checkDrain(t, "this one", a, answer{1, 2, true})
}

// P301: the chapter's examples.
func TestExamples(t *testing.T) {
	q := filled(pair{1, 5}, pair{3, 6})
	if got := popOf(q); got != (answer{3, 6, true}) {
		t.Errorf("Pop = %v, want 3, 6, true", got)
	}
	if got := popOf(&Queue{}); got != (answer{}) {
		t.Errorf("Pop of an empty queue = %v", got)
	}
}

// P301, Pop: the greatest at first, whatever order the pairs came in.
func TestPopGreatestFirst(t *testing.T) {
	want := []answer{{7, 1, true}, {3, 9, true}, {0, 4, true}, {-2, 8, true}}
	checkDrain(t, "rising", filled(pair{-2, 8}, pair{0, 4}, pair{3, 9}, pair{7, 1}), want...)
	checkDrain(t, "falling", filled(pair{7, 1}, pair{3, 9}, pair{0, 4}, pair{-2, 8}), want...)
	checkDrain(t, "mixed", filled(pair{0, 4}, pair{7, 1}, pair{-2, 8}, pair{3, 9}), want...)
}

// P301, Pop: among equal at the least id first, of either sign.
func TestPopLeastIdFirst(t *testing.T) {
	want := []answer{{5, -3, true}, {5, 0, true}, {5, 2, true}, {5, 10, true}}
	checkDrain(t, "rising", filled(pair{5, -3}, pair{5, 0}, pair{5, 2}, pair{5, 10}), want...)
	checkDrain(t, "falling", filled(pair{5, 10}, pair{5, 2}, pair{5, 0}, pair{5, -3}), want...)
	checkDrain(t, "mixed", filled(pair{5, 2}, pair{5, 10}, pair{5, -3}, pair{5, 0}), want...)
	checkDrain(t, "at before id", filled(pair{1, 0}, pair{2, 9}, pair{1, 9}, pair{2, 0}),
		answer{2, 0, true}, answer{2, 9, true}, answer{1, 0, true}, answer{1, 9, true})
}

// P301: equal pairs may occur more than once, and each Pop removes one of them.
func TestEqualPairs(t *testing.T) {
	q := filled(pair{4, 4}, pair{4, 4}, pair{2, 4}, pair{4, 4})
	checkDrain(t, "equal pairs", q, answer{4, 4, true}, answer{4, 4, true}, answer{4, 4, true}, answer{2, 4, true})
}

// P301: every int may be a priority and an identifier; a difference of two may not fit an int.
func TestExtremes(t *testing.T) {
	ends := []int{math.MinInt, math.MinInt32, -1, 0, 1, math.MaxInt32, math.MaxInt}
	q := &Queue{}
	var m plain
	for _, at := range ends {
		for _, id := range ends {
			q.Push(at, id)
			m.push(at, id)
		}
	}
	var want []answer
	for _, p := range m {
		want = append(want, answer{p.at, p.id, true})
	}
	checkDrain(t, "ends", q, want...)
}

// P301, Peek and Len: they answer what Pop removes next and how much there is, and change nothing.
func TestPeekAndLenKeep(t *testing.T) {
	q := filled(pair{1, 1}, pair{2, 3}, pair{2, 2})
	for _, want := range []answer{{2, 2, true}, {2, 3, true}, {1, 1, true}} {
		for range 3 {
			if got := peekOf(q); got != want {
				t.Errorf("Peek = %v, want %v", got, want)
			}
		}
		n := q.Len()
		if got := popOf(q); got != want || q.Len() != n-1 {
			t.Errorf("Pop = %v, Len %d, want %v, %d", got, q.Len(), want, n-1)
		}
	}
	if got := peekOf(q); got != (answer{}) {
		t.Errorf("Peek of the emptied queue = %v", got)
	}
}

// P301, Drop: all pairs with this id, whatever their at, none other; what stays comes in order.
func TestDrop(t *testing.T) {
	q := filled(pair{9, 1}, pair{5, 2}, pair{9, 3}, pair{1, 2}, pair{5, 2}, pair{2, 5}, pair{-7, 2})
	for _, c := range []struct{ id, want, left int }{{7, 0, 7}, {9, 0, 7}, {2, 4, 3}, {2, 0, 3}, {-2, 0, 3}} {
		if got := q.Drop(c.id); got != c.want || q.Len() != c.left {
			t.Errorf("Drop(%d) = %d, Len %d, want %d, %d", c.id, got, q.Len(), c.want, c.left)
		}
	}
	q.Push(3, 2)
	checkDrain(t, "after Drop", q, answer{9, 1, true}, answer{9, 3, true}, answer{3, 2, true}, answer{2, 5, true})

	all := filled(pair{1, 0}, pair{2, 0}, pair{3, 0})
	if got := all.Drop(0); got != 3 {
		t.Errorf("Drop of all = %d", got)
	}
	checkDrain(t, "all dropped", all)
}

// P301, Drop: of many pairs, for each id, what stays comes in order.
func TestDropKeepsOrder(t *testing.T) {
	for id := range 10 {
		q := &Queue{}
		var m plain
		for k := range 60 {
			at := k * 37 % 61
			q.Push(at, k%10)
			m.push(at, k%10)
		}
		if got, want := q.Drop(id), m.drop(id); got != want {
			t.Errorf("Drop(%d) = %d, want %d", id, got, want)
		}
		var want []answer
		for _, p := range m {
			want = append(want, answer{p.at, p.id, true})
		}
		checkDrain(t, "after Drop", q, want...)
	}
}

// step does the call number op to the queue and to the plain one, and tells whether they answer the same.
func step(q *Queue, m *plain, op int) bool {
	switch op {
	case 0, 1, 2, 3:
		q.Push(op/2, op%2)
		m.push(op/2, op%2)
	case 4:
		at, id, ok := m.pop()
		if popOf(q) != (answer{at, id, ok}) {
			return false
		}
	default:
		if q.Drop(op-5) != m.drop(op-5) {
			return false
		}
	}
	at, id, ok := m.peek()
	return peekOf(q) == answer{at, id, ok} && q.Len() == len(*m)
}

// P301: every order of six calls, of the seven that push, pop and drop two ids with two priorities.
func TestEveryOrderOfCalls(t *testing.T) {
	const ops, calls = 7, 6
	all := 1
	for range calls {
		all *= ops
	}
	for n := range all {
		q, m := &Queue{}, plain(nil)
		for i, code := 0, n; i < calls; i, code = i+1, code/ops {
			if !step(q, &m, code%ops) {
				t.Fatalf("order %d, in base %d: call %d differs", n, ops, i)
			}
		}
	}
}

// P301: a long run of calls on many pairs.
func TestLongRun(t *testing.T) {
	q, m := &Queue{}, plain(nil)
	seed := uint32(1)
	next := func(below int) int {
		seed = seed*1664525 + 1013904223
		return int(seed>>8) % below
	}
	for i := range 6000 {
		switch kind := next(20); {
		case kind < 13:
			at, id := next(40)-20, next(30)-15
			q.Push(at, id)
			m.push(at, id)
		case kind < 19:
			at, id, ok := m.pop()
			if got := popOf(q); got != (answer{at, id, ok}) {
				t.Fatalf("call %d: Pop = %v, want %d, %d, %v", i, got, at, id, ok)
			}
		default:
			id := next(30) - 15
			if got, want := q.Drop(id), m.drop(id); got != want {
				t.Fatalf("call %d: Drop(%d) = %d, want %d", i, id, got, want)
			}
		}
		if at, id, ok := m.peek(); peekOf(q) != (answer{at, id, ok}) || q.Len() != len(m) {
			t.Fatalf("call %d: Peek %v, Len %d, want %d, %d, %v, %d", i, peekOf(q), q.Len(), at, id, ok, len(m))
		}
	}
}

// P301, Sorted: descending, equal numbers remain, every int.
func TestSorted(t *testing.T) {
	for _, c := range []struct{ l, want []int }{
		{nil, nil},
		{[]int{}, nil},
		{[]int{0}, []int{0}},
		{[]int{1, 2}, []int{2, 1}},
		{[]int{2, 1}, []int{2, 1}},
		{[]int{3, 3, 3}, []int{3, 3, 3}},
		{[]int{1, -1, 1, 0, -1, 0}, []int{1, 1, 0, 0, -1, -1}},
		{[]int{math.MinInt, math.MaxInt, 0, math.MinInt, math.MaxInt, -1}, []int{math.MaxInt, math.MaxInt, 0, -1, math.MinInt, math.MinInt}},
	} {
		if got := Sorted(c.l...); !slices.Equal(got, c.want) {
			t.Errorf("Sorted(%v) = %v, want %v", c.l, got, c.want)
		}
	}
	if got := Sorted(); len(got) != 0 {
		t.Errorf("Sorted() = %v", got)
	}
	if got := Sorted(1, 3, 2); !slices.Equal(got, []int{3, 2, 1}) {
		t.Errorf("Sorted(1, 3, 2) = %v", got)
	}
}

func TestSortedMany(t *testing.T) {
	var l, want []int
	for i := range 1000 {
		l = append(l, i*333%1000/2)
		want = append(want, (999-i)/2)
	}
	if got := Sorted(l...); !slices.Equal(got, want) {
		t.Error("Sorted of 1000 numbers is not in descending order")
	}
}

// P301, Sorted: the list that is handed in stays, and the result shares no memory with it nor with a later result.
func TestSortedApart(t *testing.T) {
	for _, given := range [][]int{{1, 3, 2}, {3, 2, 1}, {5}} {
		l := slices.Clone(given)
		first := Sorted(l...)
		if !slices.Equal(l, given) {
			t.Errorf("Sorted changed %v to %v", given, l)
		}
		second := Sorted(l...)
		want := slices.Clone(first)
		clear(l)
		clear(second)
		if !slices.Equal(first, want) {
			t.Errorf("the result of Sorted(%v) became %v", given, first)
		}
	}
}

// P301: on a nil Queue Push has no effect, and the other methods return false and 0.
func TestNil(t *testing.T) {
	var q *Queue
	for range 2 {
		q.Push(1, 2)
		q.Push(0, 0)
		if pop, peek, n := popOf(q), peekOf(q), q.Len(); pop != (answer{}) || peek != (answer{}) || n != 0 {
			t.Errorf("nil: Pop %v, Peek %v, Len %d", pop, peek, n)
		}
		if a, b := q.Drop(0), q.Drop(2); a != 0 || b != 0 {
			t.Errorf("nil: Drop(0) = %d, Drop(2) = %d", a, b)
		}
	}
}

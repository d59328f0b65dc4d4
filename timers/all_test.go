package timers_test

import (
	"math"
	"slices"
	"testing"

	"waywarden/api"
	"waywarden/timers"
)

// P7.3: it may be left at any time, and gone over again.
func TestLeftAndGoneOverAgain(t *testing.T) {
	q, m := network(t)
	s, all := q.All(), m.rows()
	for n := 1; n <= len(all); n++ {
		var l []row
		s(func(x api.Timer, due int64) bool {
			l = append(l, row{x, due})
			return len(l) < n
		})
		if !slices.Equal(l, all[:n]) {
			t.Errorf("left behind %d it tells %v", n, l)
		}
	}
	// within itself
	for x, due := range s {
		if got := rowsOf(s); !slices.Equal(got, all) {
			t.Errorf("at %v, %d, gone over within itself, it tells %v", x, due, got)
		}
	}
	if got := rowsOf(s); !slices.Equal(got, all) {
		t.Errorf("gone over again it tells %v", got)
	}
	check(t, q, m, "one that was gone over")
}

// P7.3: what is told is as it was when All was called, whatever becomes of the queue, ahead of it or under way.
func TestAsTheyWere(t *testing.T) {
	changes := map[string]func(*timers.Queue){
		"armed":         func(q *timers.Queue) { q.Arm(route(0x0a020000, 16), 20) },
		"armed anew":    func(q *timers.Queue) { q.Arm(route(0x0a010204, 32), 1) },
		"armed as last": func(q *timers.Queue) { q.Arm(route(0xffffffff, 32), api.MaxTime) },
		"cancelled":     func(q *timers.Queue) { q.Cancel(route(0x0a010000, 16)) },
		"popped":        func(q *timers.Queue) { q.Pop(math.MaxInt64) },
		"all popped":    func(q *timers.Queue) { popped(q, math.MaxInt64) },
		"all anew": func(q *timers.Queue) {
			for x, due := range q.All() {
				q.Arm(x, (due+7)%31)
			}
		},
	}
	for said, change := range changes {
		q, m := network(t)
		s, want := q.All(), m.rows()
		var l []row
		for x, due := range s {
			l = append(l, row{x, due})
			change(q)
		}
		if !slices.Equal(l, want) {
			t.Errorf("%s under way: %v, want %v", said, l, want)
		}
		if got := rowsOf(s); !slices.Equal(got, want) {
			t.Errorf("%s ahead: %v, want %v", said, got, want)
		}
		if got := rowsOf(q.All()); slices.Equal(got, want) {
			t.Errorf("%s: called anew it tells the same", said)
		}
	}
}

// P7.3: what a queue of none tells behind a call of All is not told by it.
func TestAllOfAnEmptyOne(t *testing.T) {
	q := timers.New()
	s := q.All()
	q.Arm(period, 1)
	if got := rowsOf(s); len(got) != 0 {
		t.Errorf("All of one of none tells %v", got)
	}
}

// P7.2, P7.3: asking changes nothing, and tells the same again.
func TestAskingChangesNothing(t *testing.T) {
	q, m := network(t)
	for range 3 {
		for _, x := range append(some(), wrong()...) {
			timers.Check(x)
			q.Due(x)
		}
		q.Next()
		q.Pop(-1)
		q.Len()
		for range q.All() {
			break
		}
		timers.Same(q, q.Copy())
		check(t, q, m, "one that was asked")
	}
}

// P7.3
func TestCopy(t *testing.T) {
	for _, x := range some() {
		q, m := network(t)
		c := q.Copy()
		if c == nil || c == q || !timers.Same(q, c) {
			t.Fatal("Copy is none, or the same one, or another one")
		}
		check(t, c, m, "a copy")
		// The copy goes on apart.
		_, n := network(t)
		c.Arm(x, 25)
		n[x] = 25
		check(t, c, n, "a copy with one armed")
		check(t, q, m, "one whose copy has one armed")
		popped(c, 20)
		check(t, q, m, "one whose copy has popped")
		for y := range m {
			c.Cancel(y)
		}
		check(t, q, m, "one whose copy has cancelled all")
		// And so does the one that was copied.
		d := q.Copy()
		q.Arm(x, 26)
		check(t, d, m, "the copy of one that has one armed")
		popped(q, math.MaxInt64)
		check(t, d, m, "the copy of one that has popped all")
	}
	c := timers.New().Copy()
	if c == nil {
		t.Fatal("a queue of none has no copy")
	}
	check(t, c, model{}, "a copy of a queue of none")
	if _, _, e := c.Arm(period, 1); e != api.OK {
		t.Errorf("a copy of a queue of none arms none: %d", e)
	}
}

// P7.3: two copies of one, and a copy of one behind pops, go on apart, too.
func TestCopiesOfOne(t *testing.T) {
	q, m := network(t)
	for _, r := range m.rows()[:3] {
		q.Pop(r.due)
		delete(m, r.t)
	}
	one, two := q.Copy(), q.Copy()
	one.Arm(quiet, 1)
	two.Arm(period, 2)
	check(t, q, m, "one with two copies")
	want := model{quiet: 1}
	other := model{}
	for x, due := range m {
		want[x], other[x] = due, due
	}
	want[quiet], other[period] = 1, 2
	check(t, one, want, "the first copy")
	check(t, two, other, "the second copy")
}

// P7.3
func TestSame(t *testing.T) {
	a, b := route(0x0a000000, 8), route(0x0a000000, 9)
	lists := [][]row{
		{},
		{{period, 0}},
		{{period, 1}},
		{{period, 1<<32 + 1}},
		{{quiet, 0}},
		{{a, 0}},
		{{b, 0}},
		{{route(0, 0), 0}},
		{{period, 1}, {quiet, 2}},
		{{period, 2}, {quiet, 1}},
		{{period, 1}, {quiet, 1}},
		{{period, 1}, {a, 1}},
		{{period, 1}, {b, 1}},
		{{a, 1}, {b, 1}},
		{{a, 1}, {b, 2}},
		{{a, 0}, {b, 0}},
		{{a, 1}, {b, 2}, {quiet, 3}},
		{{a, 1}, {b, 2}, {quiet, api.MaxTime}},
		{{a, 1}, {b, 2}, {period, 3}},
	}
	for i := range lists {
		for j := range lists {
			q, r := armed(t, lists[i]...), armed(t, lists[j]...)
			if got := timers.Same(q, r); got != (i == j) {
				t.Errorf("Same of %v and %v = %t", lists[i], lists[j], got)
			}
		}
		q := armed(t, lists[i]...)
		if !timers.Same(q, q) {
			t.Errorf("%v is not the same as itself", lists[i])
		}
		// what came and went between
		other := route(0x0b000000, 8)
		q.Arm(other, 0)
		if timers.Same(q, armed(t, lists[i]...)) || timers.Same(armed(t, lists[i]...), q) {
			t.Errorf("%v is the same as with one more", lists[i])
		}
		q.Pop(0)
		q.Arm(other, 0)
		q.Cancel(other)
		for _, r := range lists[i] {
			q.Arm(r.t, 9)
			q.Arm(r.t, r.due)
		}
		if !timers.Same(q, armed(t, lists[i]...)) {
			t.Errorf("%v is not the same behind one that came and went", lists[i])
		}
	}
}

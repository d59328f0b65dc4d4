package timers_test

import (
	"fmt"
	"iter"
	"maps"
	"math"
	"slices"
	"testing"

	"waywarden/api"
	"waywarden/timers"
)

var (
	period = api.Timer{Kind: api.TimerPeriod}
	quiet  = api.Timer{Kind: api.TimerQuiet}
)

// route is the timer of a prefix.
func route(a api.Addr, length int) api.Timer {
	return api.Timer{Kind: api.TimerRoute, Prefix: api.Prefix{Addr: a, Len: length}}
}

// row is a timer, and when it is due.
type row struct {
	t   api.Timer
	due int64
}

// byTimer is the order of timers that are due at one time, written apart from the program.
func byTimer(a, b api.Timer) int {
	p, q := a.Prefix, b.Prefix
	switch {
	case a == b:
		return 0
	case a.Kind < b.Kind:
		return -1
	case a.Kind > b.Kind:
		return 1
	case p.Addr < q.Addr || p.Addr == q.Addr && p.Len < q.Len:
		return -1
	}
	return 1
}

// byOrder is how rows stand one behind the other.
func byOrder(a, b row) int {
	switch {
	case a.due < b.due:
		return -1
	case a.due > b.due:
		return 1
	}
	return byTimer(a.t, b.t)
}

// model is what a queue has, as a map; all that a queue tells is asked of it by going through it.
type model map[api.Timer]int64

func (m model) rows() []row {
	var l []row
	for t, due := range m {
		l = append(l, row{t, due})
	}
	slices.SortFunc(l, byOrder)
	return l
}

func rowsOf(s iter.Seq2[api.Timer, int64]) []row {
	var l []row
	for t, due := range s {
		l = append(l, row{t, due})
	}
	return l
}

// armed is a queue with these, armed in this order.
func armed(t *testing.T, l ...row) *timers.Queue {
	t.Helper()
	q := timers.New()
	for _, r := range l {
		if _, _, e := q.Arm(r.t, r.due); e != api.OK {
			t.Fatalf("Arm(%v, %d): %d", r.t, r.due, e)
		}
	}
	return q
}

// popped is all that a queue pops at a time.
func popped(q *timers.Queue, now int64) []row {
	var l []row
	for t, due, is := q.Pop(now); is; t, due, is = q.Pop(now) {
		l = append(l, row{t, due})
	}
	return l
}

// some are timers that may be, in the order of those that are due at one time.
func some() []api.Timer {
	return []api.Timer{
		period, quiet,
		route(0, 0), route(0, 1), route(0, 32), route(1, 32),
		route(0x0a000000, 8), route(0x0a000000, 9), route(0x0a000000, 32), route(0x0a010000, 16), route(0x0a010203, 32),
		route(0x7fffffff, 32), route(0x80000000, 1), route(0x80000000, 2), route(0xc0000000, 2), route(0xfffffffe, 31), route(0xffffffff, 32),
	}
}

// wrong are timers that may not be, those among them that come round to one that may.
func wrong() []api.Timer {
	net := api.Prefix{Addr: 0x0a000000, Len: 8}
	l := []api.Timer{
		{},
		{Prefix: net},
		{Kind: api.TimerPeriod, Prefix: net}, {Kind: api.TimerPeriod, Prefix: api.Prefix{Len: 1}}, {Kind: api.TimerPeriod, Prefix: api.Prefix{Addr: 1}}, {Kind: api.TimerPeriod, Prefix: api.Prefix{Len: -1}},
		{Kind: api.TimerQuiet, Prefix: net}, {Kind: api.TimerQuiet, Prefix: api.Prefix{Len: 32}}, {Kind: api.TimerQuiet, Prefix: api.Prefix{Addr: 0x80000000}}, {Kind: api.TimerQuiet, Prefix: api.Prefix{Len: 33}},
		route(0x0a000001, 8), route(1, 0), route(1, 31), route(0x80000000, 0), route(0xffffffff, 31),
	}
	for _, n := range []int{math.MinInt, math.MinInt + 8, -1 << 32, -32, -8, -1, 33, 40, 64, 255, 256, 264, 1 << 31, 1 << 32, 1<<32 + 8, math.MaxInt} {
		l = append(l, route(0, n), route(0x0a000000, n))
	}
	for _, k := range []api.TimerKind{math.MinInt, math.MinInt + 1, -1 << 32, -3, -2, -1, 4, 5, 255, 256, 257, 258, 259, 1 << 32, 1<<32 + 1, 1<<32 + 2, 1<<32 + 3, math.MaxInt} {
		l = append(l, api.Timer{Kind: k}, api.Timer{Kind: k, Prefix: net})
	}
	return l
}

// notimes are what is no time.
func notimes() []int64 {
	return []int64{math.MinInt64, math.MinInt64 + 1, -1 << 62, -1 << 32, -2, -1, api.MaxTime + 1, api.MaxTime + 2, math.MaxInt64 - 1, math.MaxInt64}
}

// nones are queues that are none: a nil one, and one that no call made.
func nones() []*timers.Queue {
	return []*timers.Queue{nil, {}, new(timers.Queue)}
}

// check holds all that a queue tells of itself against the model.
func check(t *testing.T, q *timers.Queue, m model, said string) {
	t.Helper()
	want := m.rows()
	if got := q.Len(); got != len(m) {
		t.Errorf("%s: Len %d, want %d", said, got, len(m))
	}
	if got := rowsOf(q.All()); !slices.Equal(got, want) {
		t.Errorf("%s: All tells %v, want %v", said, got, want)
	}
	var first row
	if len(want) > 0 {
		first = want[0]
	}
	if x, due, is := q.Next(); (row{x, due}) != first || is != (len(want) > 0) {
		t.Errorf("%s: Next = %v, %d, %t, want %v", said, x, due, is, first)
	}
	for _, x := range append(slices.Collect(maps.Keys(m)), some()...) {
		due, has := m[x]
		if got, is := q.Due(x); got != due || is != has {
			t.Errorf("%s: Due(%v) = %d, %t, want %d, %t", said, x, got, is, due, has)
		}
	}
	// What it pops at the end of time, popped of another one, so that this one stays as it is.
	if got := popped(q.Copy(), math.MaxInt64); !slices.Equal(got, want) {
		t.Errorf("%s: Pop tells %v, want %v", said, got, want)
	}
}

// P7.1
func TestCheck(t *testing.T) {
	for _, x := range some() {
		if e := timers.Check(x); e != api.OK {
			t.Errorf("Check(%v) = %d", x, e)
		}
	}
	for n := range 33 {
		if e := timers.Check(route(0, n)); e != api.OK {
			t.Errorf("Check of a route of 0.0.0.0/%d = %d", n, e)
		}
	}
	for _, x := range wrong() {
		if e := timers.Check(x); e != api.ErrArg {
			t.Errorf("Check(%v) = %d, want %d", x, e, api.ErrArg)
		}
	}
}

// P7.1
func TestNew(t *testing.T) {
	q, r := timers.New(), timers.New()
	if q == nil || r == nil || q == r {
		t.Fatal("New makes none, or one twice")
	}
	check(t, q, model{}, "a new one")
	for _, x := range some() {
		if was, had, e := q.Cancel(x); was != 0 || had || e != api.OK {
			t.Errorf("Cancel(%v) of a new one = %d, %t, %d", x, was, had, e)
		}
	}
	q.Arm(period, 1)
	check(t, r, model{}, "another new one")
}

// P7.1, P7.2: the chapter's examples.
func TestExamples(t *testing.T) {
	q := timers.New()
	ten := route(0x0a000000, 8)
	for _, r := range []row{{period, 30}, {ten, 20}, {quiet, 20}} {
		if was, had, e := q.Arm(r.t, r.due); was != 0 || had || e != api.OK {
			t.Errorf("Arm(%v, %d) = %d, %t, %d", r.t, r.due, was, had, e)
		}
	}
	if x, due, is := q.Next(); x != quiet || due != 20 || !is {
		t.Errorf("Next = %v, %d, %t", x, due, is)
	}
	if was, had, e := q.Arm(quiet, 40); was != 20 || !had || e != api.OK {
		t.Errorf("Arm(quiet, 40) = %d, %t, %d", was, had, e)
	}
	for _, r := range []struct {
		now  int64
		want row
		is   bool
	}{{19, row{}, false}, {20, row{ten, 20}, true}, {50, row{period, 30}, true}} {
		if x, due, is := q.Pop(r.now); (row{x, due}) != r.want || is != r.is {
			t.Errorf("Pop(%d) = %v, %d, %t, want %v", r.now, x, due, is, r.want)
		}
	}
	check(t, q, model{quiet: 40}, "behind the examples")
	fresh := timers.New()
	if was, had, e := fresh.Arm(api.Timer{Kind: api.TimerPeriod, Prefix: ten.Prefix}, 1); was != 0 || had || e != api.ErrArg {
		t.Errorf("Arm of a period of a prefix = %d, %t, %d", was, had, e)
	}
	if was, had, e := fresh.Arm(period, -1); was != 0 || had || e != api.ErrTime {
		t.Errorf("Arm(period, -1) = %d, %t, %d", was, had, e)
	}
	if was, had, e := fresh.Cancel(period); was != 0 || had || e != api.OK {
		t.Errorf("Cancel(period) = %d, %t, %d", was, had, e)
	}
}

// P7.1
func TestArmAndCancel(t *testing.T) {
	steps := []struct {
		t    api.Timer
		due  int64 // below 0: it is cancelled
		was  int64
		had  bool
		next api.Timer // the first one behind the step
	}{
		{period, 30, 0, false, period},
		{period, 30, 30, true, period}, // at the same time
		{quiet, 0, 0, false, quiet},
		{quiet, 31, 0, true, period}, // it was armed, due at 0
		{route(0, 0), 31, 0, false, period},
		{period, 31, 30, true, period},
		{period, 32, 31, true, quiet},
		{quiet, 33, 31, true, route(0, 0)},
		{route(0, 0), api.MaxTime, 31, true, period},
		{quiet, 10, 33, true, quiet}, // ahead of when it was
		{quiet, -1, 10, true, period},
		{quiet, -1, 0, false, period}, // twice
		{route(0, 1), 5, 0, false, route(0, 1)},
		{route(0, 0), -1, api.MaxTime, true, route(0, 1)},
		{route(0, 0), 5, 0, false, route(0, 0)}, // again
		{route(0, 0), -1, 5, true, route(0, 1)},
		{route(0, 1), -1, 5, true, period},
		{period, 0, 32, true, period},
		{period, -1, 0, true, api.Timer{}},
	}
	q, m := timers.New(), model{}
	for i, s := range steps {
		var was int64
		var had bool
		var e api.Errno
		if s.due < 0 {
			was, had, e = q.Cancel(s.t)
			delete(m, s.t)
		} else {
			was, had, e = q.Arm(s.t, s.due)
			m[s.t] = s.due
		}
		if was != s.was || had != s.had || e != api.OK {
			t.Errorf("step %d = %d, %t, %d, want %d, %t", i, was, had, e, s.was, s.had)
		}
		if x, _, _ := q.Next(); x != s.next {
			t.Errorf("step %d: Next = %v, want %v", i, x, s.next)
		}
		check(t, q, m, fmt.Sprint("step ", i))
	}
}

// P7.1: times are from 0 to MaxTime.
func TestBoundsOfTimes(t *testing.T) {
	q := timers.New()
	was := int64(0)
	for i, due := range []int64{0, 1, 1 << 31, 1 << 32, 1<<32 + 1, api.MaxTime - 1, api.MaxTime} {
		for _, x := range []api.Timer{period, route(0x0a000000, 8)} {
			got, had, e := q.Arm(x, due)
			if got != was || had != (i > 0) || e != api.OK {
				t.Errorf("Arm(%v, %d) = %d, %t, %d, want %d", x, due, got, had, e, was)
			}
			if got, is := q.Due(x); got != due || !is {
				t.Errorf("Due(%v) = %d, %t, want %d", x, got, is, due)
			}
		}
		was = due
	}
}

// P7.1: what is refused changes nothing; what may not be is told ahead of what is no time.
func TestRefused(t *testing.T) {
	m := model{period: 0, route(0x0a000000, 8): 7, route(0, 0): api.MaxTime}
	q := armed(t, m.rows()...)
	for _, x := range append(some(), wrong()...) {
		for _, due := range notimes() {
			want := api.ErrTime
			if timers.Check(x) != api.OK {
				want = api.ErrArg
			}
			if was, had, e := q.Arm(x, due); was != 0 || had || e != want {
				t.Errorf("Arm(%v, %d) = %d, %t, %d, want %d", x, due, was, had, e, want)
			}
		}
	}
	for _, x := range wrong() {
		for _, due := range []int64{0, 7, api.MaxTime} {
			if was, had, e := q.Arm(x, due); was != 0 || had || e != api.ErrArg {
				t.Errorf("Arm(%v, %d) = %d, %t, %d", x, due, was, had, e)
			}
		}
		if was, had, e := q.Cancel(x); was != 0 || had || e != api.ErrArg {
			t.Errorf("Cancel(%v) = %d, %t, %d", x, was, had, e)
		}
		if due, is := q.Due(x); due != 0 || is {
			t.Errorf("Due(%v) = %d, %t", x, due, is)
		}
	}
	check(t, q, m, "one that refused")
}

// P7.1, P7.2, P7.3: one that is none.
func TestNone(t *testing.T) {
	for i, q := range nones() {
		for _, x := range append(some(), wrong()...) {
			for _, due := range append(notimes(), 0, 1, api.MaxTime) {
				if was, had, e := q.Arm(x, due); was != 0 || had || e != api.ErrNil {
					t.Errorf("%d: Arm(%v, %d) = %d, %t, %d", i, x, due, was, had, e)
				}
			}
			if was, had, e := q.Cancel(x); was != 0 || had || e != api.ErrNil {
				t.Errorf("%d: Cancel(%v) = %d, %t, %d", i, x, was, had, e)
			}
			if due, is := q.Due(x); due != 0 || is {
				t.Errorf("%d: Due(%v) = %d, %t", i, x, due, is)
			}
		}
		if x, due, is := q.Next(); x != (api.Timer{}) || due != 0 || is {
			t.Errorf("%d: Next = %v, %d, %t", i, x, due, is)
		}
		for _, now := range append(notimes(), 0, 1, api.MaxTime) {
			if x, due, is := q.Pop(now); x != (api.Timer{}) || due != 0 || is {
				t.Errorf("%d: Pop(%d) = %v, %d, %t", i, now, x, due, is)
			}
		}
		if s := q.All(); s == nil || len(rowsOf(s)) != 0 {
			t.Errorf("%d: All is nil, or tells something", i)
		}
		if n := q.Len(); n != 0 {
			t.Errorf("%d: Len = %d", i, n)
		}
		if c := q.Copy(); c != nil {
			t.Errorf("%d: Copy is there", i)
		}
		for j, r := range nones() {
			if !timers.Same(q, r) {
				t.Errorf("Same of %d and %d, which are none", i, j)
			}
		}
		for _, r := range []*timers.Queue{timers.New(), armed(t, row{period, 1})} {
			if timers.Same(q, r) || timers.Same(r, q) {
				t.Errorf("%d is as one that is there", i)
			}
		}
	}
}

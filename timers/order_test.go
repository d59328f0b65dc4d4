package timers_test

import (
	"fmt"
	"math"
	"math/rand"
	"slices"
	"testing"

	"waywarden/api"
	"waywarden/timers"
)

// network is a queue with some timers, several of them due at one time, and its model.
func network(t *testing.T) (*timers.Queue, model) {
	t.Helper()
	m := model{
		period:                30,
		quiet:                 20,
		route(0x0a000000, 8):  20,
		route(0x0a000000, 9):  20,
		route(0x0a010000, 16): 20,
		route(0x80000000, 1):  20,
		route(0, 0):           19,
		route(0xffffffff, 32): 0,
		route(0x0a010203, 32): api.MaxTime,
		route(0x0a010204, 32): 21,
	}
	return armed(t, m.rows()...), m
}

// orders are all orders of so many places.
func orders(n int) [][]int {
	if n == 0 {
		return [][]int{nil}
	}
	var all [][]int
	for _, l := range orders(n - 1) {
		for at := range n {
			all = append(all, slices.Insert(slices.Clone(l), at, n-1))
		}
	}
	return all
}

// P7.2
func TestOrder(t *testing.T) {
	q, m := network(t)
	check(t, q, m, "a network")
	want := []row{
		{route(0xffffffff, 32), 0},
		{route(0, 0), 19},
		{quiet, 20},
		{route(0x0a000000, 8), 20},
		{route(0x0a000000, 9), 20},
		{route(0x0a010000, 16), 20},
		{route(0x80000000, 1), 20},
		{route(0x0a010204, 32), 21},
		{period, 30},
		{route(0x0a010203, 32), api.MaxTime},
	}
	if got := rowsOf(q.All()); !slices.Equal(got, want) {
		t.Errorf("All tells %v, want %v", got, want)
	}
	for i, r := range want {
		if x, due, is := q.Next(); (row{x, due}) != r || !is {
			t.Errorf("%d: Next = %v, %d, %t, want %v", i, x, due, is, r)
		}
		if x, due, is := q.Pop(r.due - 1); x != (api.Timer{}) || due != 0 || is {
			t.Errorf("%d: Pop a tick ahead = %v, %d, %t", i, x, due, is)
		}
		if x, due, is := q.Pop(r.due); (row{x, due}) != r || !is {
			t.Errorf("%d: Pop = %v, %d, %t, want %v", i, x, due, is, r)
		}
		delete(m, r.t)
		check(t, q, m, fmt.Sprint("behind Pop ", i))
	}
}

// P7.2: timers that are due at one time stand by Kind, then by prefix, one due ahead of them ahead.
func TestOrderOfEachTwo(t *testing.T) {
	all := some()
	for i, a := range all {
		for j, b := range all {
			for _, dues := range [][2]int64{{5, 5}, {0, 0}, {4, 5}, {5, 4}, {0, api.MaxTime}, {api.MaxTime, 0}, {api.MaxTime, api.MaxTime}, {1 << 32, 1}} {
				if i == j {
					continue
				}
				first, second := row{a, dues[0]}, row{b, dues[1]}
				if dues[1] < dues[0] || dues[1] == dues[0] && j < i {
					first, second = second, first
				}
				q := armed(t, row{a, dues[0]}, row{b, dues[1]})
				if x, due, is := q.Next(); (row{x, due}) != first || !is {
					t.Errorf("of %v and %v, due at %v, %v is the first one", a, b, dues, x)
				}
				if got := rowsOf(q.All()); !slices.Equal(got, []row{first, second}) {
					t.Errorf("of %v and %v, due at %v, All tells %v", a, b, dues, got)
				}
				if got := popped(q, math.MaxInt64); !slices.Equal(got, []row{first, second}) {
					t.Errorf("of %v and %v, due at %v, Pop tells %v", a, b, dues, got)
				}
			}
		}
	}
}

// P7.2: what is due at a time, and what is not, at each number that may be asked.
func TestPopAtEachTime(t *testing.T) {
	for _, due := range []int64{0, 1, 20, 1 << 32, api.MaxTime - 1, api.MaxTime} {
		for _, now := range append(notimes(), 0, 1, 2, 19, 20, 21, 1<<32-1, 1<<32, 1<<32+1, api.MaxTime-1, api.MaxTime) {
			q := armed(t, row{quiet, due})
			x, got, is := q.Pop(now)
			if now < due {
				if x != (api.Timer{}) || got != 0 || is {
					t.Errorf("Pop(%d) of what is due at %d = %v, %d, %t", now, due, x, got, is)
				}
				check(t, q, model{quiet: due}, "one that popped nothing")
				continue
			}
			if x != quiet || got != due || !is {
				t.Errorf("Pop(%d) of what is due at %d = %v, %d, %t", now, due, x, got, is)
			}
			check(t, q, model{}, "one that popped its last")
			if was, had, e := q.Arm(quiet, 3); was != 0 || had || e != api.OK {
				t.Errorf("Arm of what was popped = %d, %t, %d", was, had, e)
			}
		}
	}
}

// P7.4: in which order timers were armed makes no difference.
func TestOrderOfArmingMakesNoDifference(t *testing.T) {
	l := []row{{period, 20}, {quiet, 20}, {route(0, 0), 20}, {route(0x0a000000, 8), 20}, {route(0x0a000000, 9), 19}, {route(0x0b000000, 8), 21}}
	m := model{}
	for _, r := range l {
		m[r.t] = r.due
	}
	plain := armed(t, l...)
	for _, order := range orders(len(l)) {
		q := timers.New()
		for _, at := range order {
			q.Arm(l[at].t, l[at].due)
		}
		check(t, q, m, fmt.Sprint("armed in the order ", order))
		if !timers.Same(q, plain) || !timers.Same(plain, q) {
			t.Errorf("armed in the order %v it is another one", order)
		}
	}
}

// P7.4: nor in which order they were cancelled, or armed anew.
func TestOrderOfCancellingMakesNoDifference(t *testing.T) {
	_, m := network(t)
	all := m.rows()
	for _, order := range orders(5) {
		q, n := armed(t, all...), model{}
		for _, r := range all {
			n[r.t] = r.due
		}
		for i, at := range order {
			if i%2 == 0 {
				q.Cancel(all[2*at].t)
				delete(n, all[2*at].t)
				continue
			}
			q.Arm(all[2*at].t, 20)
			n[all[2*at].t] = 20
		}
		check(t, q, n, fmt.Sprint("cancelled, and armed anew, in the order ", order))
	}
}

// P7.4: pops of one time tell all that is due then, in order, each once; the others stay.
func TestPopsOfOneTime(t *testing.T) {
	for _, now := range append(notimes(), 0, 18, 19, 20, 21, 29, 30, 31, api.MaxTime-1, api.MaxTime) {
		q, m := network(t)
		var want []row
		for _, r := range m.rows() {
			if r.due <= now {
				want = append(want, r)
				delete(m, r.t)
			}
		}
		if got := popped(q, now); !slices.Equal(got, want) {
			t.Errorf("pops of %d tell %v, want %v", now, got, want)
		}
		check(t, q, m, fmt.Sprint("behind pops of ", now))
	}
}

// P7.2, P7.4: what is armed between pops of one time comes in its place.
func TestArmedBetweenPops(t *testing.T) {
	q := armed(t, row{quiet, 5}, row{route(0x0a000000, 8), 7}, row{period, 9})
	if x, _, _ := q.Pop(9); x != quiet {
		t.Errorf("Pop = %v", x)
	}
	q.Arm(quiet, 7)                // again, ahead of the route that is due then
	q.Arm(route(0x09000000, 8), 7) // ahead of it by its prefix
	q.Arm(period, 8)               // ahead of when it was
	q.Arm(route(0, 0), 10)         // not due
	want := []row{{quiet, 7}, {route(0x09000000, 8), 7}, {route(0x0a000000, 8), 7}, {period, 8}}
	if got := popped(q, 9); !slices.Equal(got, want) {
		t.Errorf("pops tell %v, want %v", got, want)
	}
	check(t, q, model{route(0, 0): 10}, "behind the pops")
}

// P7.1 to P7.4: thousands of steps, each held against the model.
func TestManySteps(t *testing.T) {
	draw := rand.New(rand.NewSource(7))
	all := some()
	for i := range 40 {
		all = append(all, route(api.Addr(i*37%64)<<24, 8))
	}
	for run := range 20 {
		q, m := timers.New(), model{}
		for step := range 400 {
			said := fmt.Sprintf("run %d, step %d", run, step)
			x, now := all[draw.Intn(len(all))], int64(draw.Intn(20))
			want, has := m[x]
			var was int64
			var had bool
			var e api.Errno
			switch draw.Intn(5) {
			case 0:
				was, had, e = q.Cancel(x)
				delete(m, x)
			case 1:
				var first row
				l := m.rows()
				if len(l) > 0 && l[0].due <= now {
					first = l[0]
					delete(m, first.t)
				}
				got, due, is := q.Pop(now)
				if (row{got, due}) != first || is != (first != row{}) {
					t.Fatalf("%s: Pop(%d) = %v, %d, %t, want %v", said, now, got, due, is, first)
				}
				want, has = 0, false
			default:
				was, had, e = q.Arm(x, now)
				m[x] = now
			}
			if was != want || had != has || e != api.OK {
				t.Fatalf("%s: %d, %t, %d, want %d, %t", said, was, had, e, want, has)
			}
			check(t, q, m, said)
			if t.Failed() {
				t.FailNow()
			}
		}
	}
}

// P7.4: as many as a great network has, and more, in a moment.
func TestManyTimers(t *testing.T) {
	const many = 100000
	q, m := timers.New(), model{}
	for i := range many {
		// By an odd number: no two of these addresses are the same.
		x, due := route(api.Addr(i)*2654435761, 32), int64(i)*7919%1000
		q.Arm(x, due+1000)
		q.Arm(x, due)
		m[x] = due
	}
	for i := 0; i < many; i += 3 {
		x := route(api.Addr(i)*2654435761, 32)
		q.Cancel(x)
		delete(m, x)
	}
	want := m.rows()
	if got := rowsOf(q.All()); !slices.Equal(got, want) {
		t.Errorf("All tells %d in another order, or others", len(got))
	}
	if got := popped(q, 1000); !slices.Equal(got, want) {
		t.Errorf("Pop tells %d in another order, or others", len(got))
	}
}

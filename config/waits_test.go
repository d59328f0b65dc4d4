package config_test

import (
	"math"
	"slices"
	"testing"

	"waywarden/api"
	"waywarden/config"
)

// clamped is a number clamped to a span, as the document says it.
func clamped(n, span int64) int64 {
	if n < 0 {
		return 0
	}
	if n > span {
		return span
	}
	return n
}

// P8.2: the chapter's examples.
func TestExamples(t *testing.T) {
	c, e := config.Standard()
	if e != api.OK {
		t.Fatal(e)
	}
	rows := []struct {
		call func(api.Config, int64) (int64, api.Errno)
		n    int64
		want int64
		e    api.Errno
	}{
		{config.Wait, 3, 28, api.OK},
		{config.Wait, 99, 35, api.OK},
		{config.Wait, -1, 25, api.OK},
		{config.Quiet, 9, 5, api.OK},
		{config.Bound, 5, 32 * 460, api.OK},
		{config.Bound, 145, 0, api.ErrSettle},
		{config.Bound, 144, 32 * 599, api.OK},
		{config.Bound, -1, 0, api.ErrArg},
	}
	for i, r := range rows {
		if n, e := r.call(c, r.n); n != r.want || e != r.e {
			t.Errorf("row %d: of %d = %d, %d, want %d, %d", i, r.n, n, e, r.want, r.e)
		}
	}
	if e := config.Check(api.Config{}); e != api.ErrArg {
		t.Errorf("Check of zero = %d", e)
	}
}

// draws are numbers in and out of each span, rising.
func draws() []int64 {
	l := numbers()
	for n := int64(-20); n < 40; n++ {
		l = append(l, n)
	}
	slices.Sort(l)
	return l
}

// spans are ends of what a span may be.
func spans() []int64 {
	return []int64{0, 1, 2, 9, 10, 999999, 1000000}
}

// P8.2: each draw, with each two spans.
func TestWaitAndQuiet(t *testing.T) {
	for _, most := range spans() {
		for _, least := range spans() {
			c := plain()
			c.Period, c.Jitter, c.Quiet, c.Spread = max(least, 1), most, least, most
			d := plain()
			d.Quiet, d.Spread = 77, 88
			d.Period, d.Jitter = c.Period, c.Jitter
			f := plain()
			f.Period, f.Jitter = 77, 88
			f.Quiet, f.Spread = c.Quiet, c.Spread
			for _, draw := range draws() {
				for _, c := range []api.Config{c, d} {
					if n, e := config.Wait(c, draw); n != c.Period+clamped(draw, most) || e != api.OK {
						t.Errorf("Wait(%v, %d) = %d, %d", c, draw, n, e)
					}
				}
				for _, c := range []api.Config{c, f} {
					if n, e := config.Quiet(c, draw); n != least+clamped(draw, most) || e != api.OK {
						t.Errorf("Quiet(%v, %d) = %d, %d", c, draw, n, e)
					}
				}
			}
		}
	}
}

// P8.4: whatever is drawn, a wait is from its span to both, and both ends are drawn; a greater draw makes no shorter one.
func TestWaitsWhateverIsDrawn(t *testing.T) {
	rows := []struct {
		call        func(api.Config, int64) (int64, api.Errno)
		least, most func(api.Config) int64
	}{
		{config.Wait, func(c api.Config) int64 { return c.Period }, func(c api.Config) int64 { return c.Period + c.Jitter }},
		{config.Quiet, func(c api.Config) int64 { return c.Quiet }, func(c api.Config) int64 { return c.Quiet + c.Spread }},
	}
	for i, r := range rows {
		for _, span := range spans() {
			c := plain()
			c.Jitter, c.Spread = span, span
			var waits []int64
			for _, draw := range draws() {
				n, e := r.call(c, draw)
				if e != api.OK {
					t.Errorf("row %d: the draw %d: %d", i, draw, e)
				}
				waits = append(waits, n)
			}
			if !slices.IsSorted(waits) {
				t.Errorf("row %d, span %d: a greater draw makes a shorter wait: %v", i, span, waits)
			}
			if waits[0] != r.least(c) || waits[len(waits)-1] != r.most(c) {
				t.Errorf("row %d, span %d: from %d to %d", i, span, waits[0], waits[len(waits)-1])
			}
		}
	}
}

// P8.2: of a configuration that may not be, whatever the number is.
func TestWaitsAndBoundRefuse(t *testing.T) {
	for said, c := range wrong() {
		for _, n := range []int64{math.MinInt64, -1, 0, 1, 5, 1000000, 1000001, math.MaxInt64} {
			if w, e := config.Wait(c, n); w != 0 || e != api.ErrArg {
				t.Errorf("%s: Wait(%d) = %d, %d", said, n, w, e)
			}
			if w, e := config.Quiet(c, n); w != 0 || e != api.ErrArg {
				t.Errorf("%s: Quiet(%d) = %d, %d", said, n, w, e)
			}
			if w, e := config.Bound(c, n); w != 0 || e != api.ErrArg {
				t.Errorf("%s: Bound(%d) = %d, %d", said, n, w, e)
			}
		}
	}
}

// bound is what the document says of Bound, of a configuration that may be.
func bound(c api.Config, delay int64) (int64, api.Errno) {
	switch {
	case delay < 0 || delay > 1000000:
		return 0, api.ErrArg
	case c.Period+c.Jitter+delay >= c.Timeout:
		return 0, api.ErrSettle
	}
	return 32 * (c.Timeout + c.Hold + c.Garbage + c.Period + c.Jitter + delay), api.OK
}

// P8.2: each delay around the one with which it does not settle any more.
func TestBound(t *testing.T) {
	for _, period := range []int64{1, 2, 30, 999999, 1000000} {
		for _, jitter := range spans() {
			for _, timeout := range []int64{1, 2, 3, 29, 30, 31, 32, 33, 60, 999999, 1000000} {
				c := plain()
				c.Period, c.Jitter, c.Timeout = period, jitter, timeout
				least := timeout - period - jitter
				for _, delay := range append(numbers(), least-1, least, least+1) {
					want, wantE := bound(c, delay)
					if n, e := config.Bound(c, delay); n != want || e != wantE {
						t.Errorf("Bound(%v, %d) = %d, %d, want %d, %d", c, delay, n, e, want, wantE)
					}
				}
			}
		}
	}
}

// P8.2: Quiet and Spread are no part of the bound, all others are.
func TestBoundOfEachSpan(t *testing.T) {
	for _, f := range fields() {
		c := plain()
		before, e := config.Bound(c, 7)
		if e != api.OK {
			t.Fatal(e)
		}
		*f.of(&c) += 5
		want := before + 32*5
		if f.name == "quiet" || f.name == "spread" {
			want = before
		}
		if n, e := config.Bound(c, 7); n != want || e != api.OK {
			t.Errorf("with a greater %s: %d, %d, want %d", f.name, n, e, want)
		}
	}
}

// P8.2: the greatest one there is.
func TestGreatestBound(t *testing.T) {
	c := plain()
	c.Period, c.Jitter, c.Timeout, c.Hold, c.Garbage = 1, 0, 1000000, 1000000, 1000000
	if n, e := config.Bound(c, 999998); n != 32*3999999 || e != api.OK {
		t.Errorf("Bound = %d, %d", n, e)
	}
	if n, e := config.Bound(c, 999999); n != 0 || e != api.ErrSettle {
		t.Errorf("Bound of one tick more = %d, %d", n, e)
	}
	if n, e := config.Bound(c, 1000000); n != 0 || e != api.ErrSettle {
		t.Errorf("Bound of the greatest delay = %d, %d", n, e)
	}
	if n, e := config.Bound(c, 1000001); n != 0 || e != api.ErrArg {
		t.Errorf("Bound of no span = %d, %d", n, e)
	}
}

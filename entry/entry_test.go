package entry_test

import (
	"math"
	"testing"

	"waywarden/api"
	"waywarden/entry"
)

// ints are numbers near those that may be, far from them, and such as come round to them in 16 or 32 bits.
func ints() []int {
	return []int{math.MinInt, math.MinInt + 1, math.MinInt + 2, -1 << 32, -1<<32 + 1, -1<<32 + 2, -1 << 31, -1 << 16, -1<<16 + 2, -65535, -16, -2, -1, 0, 1, 2, 3, 8, 15, 16, 17, 18, 24, 31, 32, 33, 255, 256, 258, 65534, 65535, 65536, 65537, 65538, 1<<31 - 1, 1 << 31, 1<<32 - 1, 1 << 32, 1<<32 + 1, 1<<32 + 2, 1<<32 + 16, 1<<48 + 2, math.MaxInt - 1, math.MaxInt}
}

// masks are all the masks, that of the Len 0 first, each bit set one by one.
func masks() []api.Addr {
	l := []api.Addr{0}
	for i := range 32 {
		l = append(l, l[i]|1<<(31-i))
	}
	return l
}

// addrs are addresses on both sides of each end of each kind, and some from within.
func addrs() []api.Addr {
	l := []api.Addr{0, 1, 2, 0x7fffffff, 0x80000000, 0xffffffff, 0xfffffffe, 0x0a010000, 0x0a010203, 0xc0a80100, 0xc0a80101, 0x40000000, 0x20000000, 0xc0000000}
	for _, first := range []api.Addr{0, 1, 2, 9, 10, 126, 127, 128, 192, 223, 224, 225, 239, 240, 241, 254, 255} {
		for _, rest := range []api.Addr{0, 1, 0x010000, 0xff0000, 0xfffffe, 0xffffff} {
			l = append(l, first<<24|rest)
		}
	}
	return l
}

// isOfBadKind is ReasonKind's row, by the first byte alone.
func isOfBadKind(a, mask api.Addr) bool {
	if a == 0 {
		return mask != 0
	}
	first := byte(a >> 24)
	return first == 0 || first == 127 || first >= 224
}

// good is an entry that is good.
func good() api.Entry {
	return api.Entry{Family: 2, Addr: 0x0a010000, Mask: 0xffff0000, Metric: 3}
}

// P4.3
func TestOf(t *testing.T) {
	rows := []struct {
		p      api.Prefix
		metric int
		want   api.Entry
		e      api.Errno
	}{
		{api.Prefix{Addr: 0x0a010000, Len: 16}, 3, good(), api.OK},
		{api.Prefix{}, 1, api.Entry{Family: 2, Metric: 1}, api.OK},
		{api.Prefix{}, 16, api.Entry{Family: 2, Metric: 16}, api.OK},
		{api.Prefix{Addr: 0x0a000001, Len: 32}, 15, api.Entry{Family: 2, Addr: 0x0a000001, Mask: 0xffffffff, Metric: 15}, api.OK},
		{api.Prefix{Addr: 0x80000000, Len: 1}, 1, api.Entry{Family: 2, Addr: 0x80000000, Mask: 0x80000000, Metric: 1}, api.OK},
		{api.Prefix{Addr: 0x01000000, Len: 8}, 2, api.Entry{Family: 2, Addr: 0x01000000, Mask: 0xff000000, Metric: 2}, api.OK},
		{api.Prefix{Addr: 0xdfffffff, Len: 32}, 2, api.Entry{Family: 2, Addr: 0xdfffffff, Mask: 0xffffffff, Metric: 2}, api.OK},
		// addresses of which nothing may be told
		{api.Prefix{Len: 8}, 1, api.Entry{}, api.ErrArg},
		{api.Prefix{Len: 1}, 1, api.Entry{}, api.ErrArg},
		{api.Prefix{Len: 32}, 1, api.Entry{}, api.ErrArg},
		{api.Prefix{Addr: 0x00010000, Len: 16}, 1, api.Entry{}, api.ErrArg},
		{api.Prefix{Addr: 0x7f000000, Len: 8}, 1, api.Entry{}, api.ErrArg},
		{api.Prefix{Addr: 0xe0000000, Len: 4}, 1, api.Entry{}, api.ErrArg},
		{api.Prefix{Addr: 0xf0000000, Len: 4}, 1, api.Entry{}, api.ErrArg},
		{api.Prefix{Addr: 0xffffffff, Len: 32}, 1, api.Entry{}, api.ErrArg},
		// prefixes that may not be
		{api.Prefix{Addr: 0x0a010001, Len: 16}, 1, api.Entry{}, api.ErrArg},
		{api.Prefix{Addr: 0x0a010000, Len: 33}, 1, api.Entry{}, api.ErrArg},
		{api.Prefix{Addr: 0x0a010000, Len: -1}, 1, api.Entry{}, api.ErrArg},
		{api.Prefix{Len: -1}, 1, api.Entry{}, api.ErrArg},
		{api.Prefix{Addr: 1}, 1, api.Entry{}, api.ErrArg},
		// metrics that may not be
		{api.Prefix{}, 0, api.Entry{}, api.ErrArg},
		{api.Prefix{}, 17, api.Entry{}, api.ErrArg},
		{api.Prefix{}, -1, api.Entry{}, api.ErrArg},
		{api.Prefix{}, 1<<32 + 1, api.Entry{}, api.ErrArg},
		{api.Prefix{}, math.MinInt + 1, api.Entry{}, api.ErrArg},
	}
	for _, r := range rows {
		if x, e := entry.Of(r.p, r.metric); x != r.want || e != r.e {
			t.Errorf("Of(%x, %d) = %x, %d, want %x, %d", r.p, r.metric, x, e, r.want, r.e)
		}
	}
}

// P4.3: each address with each Len, and with what is none.
func TestOfEachPrefix(t *testing.T) {
	for _, a := range addrs() {
		for _, n := range append(ints(), lens()...) {
			var want api.Entry
			wantE := api.ErrArg
			if n >= 0 && n <= 32 && a&^masks()[n] == 0 && !isOfBadKind(a, masks()[n]) {
				want, wantE = api.Entry{Family: 2, Addr: a, Mask: masks()[n], Metric: 7}, api.OK
			}
			if x, e := entry.Of(api.Prefix{Addr: a, Len: n}, 7); x != want || e != wantE {
				t.Errorf("Of(%x/%d, 7) = %x, %d, want %x, %d", a, n, x, e, want, wantE)
			}
		}
	}
}

func lens() []int {
	var l []int
	for n := range 33 {
		l = append(l, n)
	}
	return l
}

// P4.3
func TestOfEachMetric(t *testing.T) {
	p := api.Prefix{Addr: 0x0a010000, Len: 16}
	for _, m := range ints() {
		x, e := entry.Of(p, m)
		if m < 1 || m > 16 {
			if e != api.ErrArg || x != (api.Entry{}) {
				t.Errorf("Of(.., %d) = %x, %d", m, x, e)
			}
			continue
		}
		if e != api.OK || int(x.Metric) != m {
			t.Errorf("Of(.., %d) = %x, %d", m, x, e)
		}
	}
}

// P4.3
func TestPrefix(t *testing.T) {
	rows := []struct {
		x    api.Entry
		want api.Prefix
		e    api.Errno
	}{
		{good(), api.Prefix{Addr: 0x0a010000, Len: 16}, api.OK},
		{api.Entry{Family: 2, Metric: 16}, api.Prefix{}, api.OK},
		{api.Entry{Family: 2, Addr: 0x0a000001, Mask: 0xffffffff, Metric: 1}, api.Prefix{Addr: 0x0a000001, Len: 32}, api.OK},
		{api.Entry{Family: 2, Addr: 0x80000000, Mask: 0x80000000, Metric: 1}, api.Prefix{Addr: 0x80000000, Len: 1}, api.OK},
		// no reason speaks of the Tag
		{api.Entry{Family: 2, Tag: 65535, Addr: 0x0a000000, Mask: 0xff000000, Metric: 1}, api.Prefix{Addr: 0x0a000000, Len: 8}, api.OK},
		{api.Entry{Family: 2, Tag: -1, Addr: 0x0a000000, Mask: 0xff000000, Metric: 1}, api.Prefix{Addr: 0x0a000000, Len: 8}, api.OK},
		{entry.All(), api.Prefix{}, api.ErrEntry},
		{api.Entry{}, api.Prefix{}, api.ErrEntry},
		{api.Entry{Family: 1, Addr: 0x0a000000, Mask: 0xff000000, Metric: 1}, api.Prefix{}, api.ErrEntry},
		{api.Entry{Family: 2, Addr: 0x0a000000, Mask: 0xff00ff00, Metric: 1}, api.Prefix{}, api.ErrEntry},
		{api.Entry{Family: 2, Addr: 0x0a010000, Mask: 0xff000000, Metric: 1}, api.Prefix{}, api.ErrEntry},
		{api.Entry{Family: 2, Addr: 0x7f000000, Mask: 0xff000000, Metric: 1}, api.Prefix{}, api.ErrEntry},
		{api.Entry{Family: 2, Addr: 0x0a000000, Mask: 0xff000000, Next: 1, Metric: 1}, api.Prefix{}, api.ErrEntry},
		{api.Entry{Family: 2, Addr: 0x0a000000, Mask: 0xff000000, Metric: 0}, api.Prefix{}, api.ErrEntry},
		{api.Entry{Family: 2, Addr: 0x0a000000, Mask: 0xff000000, Metric: 17}, api.Prefix{}, api.ErrEntry},
	}
	for _, r := range rows {
		if p, e := entry.Prefix(r.x); p != r.want || e != r.e {
			t.Errorf("Prefix(%x) = %x, %d, want %x, %d", r.x, p, e, r.want, r.e)
		}
	}
}

// P4.3
func TestPrefixIsOfGoodEntriesAlone(t *testing.T) {
	for _, x := range bent() {
		p, e := entry.Prefix(x)
		if why(x) != api.ReasonFine {
			if p != (api.Prefix{}) || e != api.ErrEntry {
				t.Errorf("Prefix(%x) = %x, %d", x, p, e)
			}
			continue
		}
		if e != api.OK || p.Addr != x.Addr || masks()[p.Len] != x.Mask {
			t.Errorf("Prefix(%x) = %x, %d", x, p, e)
		}
	}
}

// P4.3
func TestAll(t *testing.T) {
	if x := entry.All(); x != (api.Entry{Family: 0, Metric: 16}) {
		t.Errorf("All() = %x", x)
	}
	b, e := entry.Bytes(entry.All())
	if string(b) != "\x00\x00\x00\x00\x00\x00\x00\x00\x00\x00\x00\x00\x00\x00\x00\x00\x00\x00\x00\x10" || e != api.OK {
		t.Errorf("its bytes are % x, %d", b, e)
	}
}

// P4.4: the entry of a prefix is good, and its prefix is that; a good entry of Tag 0 is the entry of its prefix.
func TestPrefixUndoesOf(t *testing.T) {
	for _, a := range addrs() {
		for n, mask := range masks() {
			p := api.Prefix{Addr: a & mask, Len: n}
			for metric := range 18 {
				x, e := entry.Of(p, metric)
				if e != api.OK {
					continue
				}
				if r := entry.Why(x); r != api.ReasonFine {
					t.Errorf("Of(%x, %d) is left out: %d", p, metric, r)
				}
				if q, e := entry.Prefix(x); q != p || e != api.OK {
					t.Errorf("Prefix of Of(%x, %d) = %x, %d", p, metric, q, e)
				}
			}
		}
	}
}

// P4.4
func TestOfUndoesPrefix(t *testing.T) {
	some := 0
	for _, x := range bent() {
		p, e := entry.Prefix(x)
		if e != api.OK {
			continue
		}
		some++
		x.Tag = 0
		if y, e := entry.Of(p, int(x.Metric)); y != x || e != api.OK {
			t.Errorf("Of the prefix of %x = %x, %d", x, y, e)
		}
	}
	if some < 100 {
		t.Errorf("just %d entries are good", some)
	}
}

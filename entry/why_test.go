package entry_test

import (
	"math"
	"testing"

	"waywarden/api"
	"waywarden/entry"
)

// why is the table of reasons, written down once more.
func why(x api.Entry) api.Reason {
	isMask := false
	for _, m := range masks() {
		isMask = isMask || m == x.Mask
	}
	switch {
	case x.Family != 2:
		return api.ReasonFamily
	case !isMask:
		return api.ReasonMask
	case x.Addr|x.Mask != x.Mask:
		return api.ReasonBits
	case isOfBadKind(x.Addr, x.Mask):
		return api.ReasonKind
	case x.Next != 0:
		return api.ReasonNext
	case x.Metric == 0 || x.Metric > 16:
		return api.ReasonMetric
	}
	return api.ReasonFine
}

// bent are entries with each field as it may be, and as it may not be, with one another.
func bent() []api.Entry {
	var l []api.Entry
	someMasks := append(masks(), 1, 2, 0x7fffffff, 0x00ffffff, 0x0000ffff, 0xff00ff00, 0xff00ff, 0xfffffffd, 0xfffeffff, 0xffff0001, 0x40000000)
	for _, family := range []int{2, 0, 1, 3, -2, 258, 65538, 1<<32 + 2, math.MinInt, math.MaxInt} {
		for _, a := range addrs() {
			for _, mask := range someMasks {
				for _, next := range []api.Addr{0, 1, 0x80000000} {
					l = append(l, api.Entry{Family: family, Tag: family % 3, Addr: a & mask, Mask: mask, Next: next, Metric: uint32(len(l) % 19)})
				}
				l = append(l, api.Entry{Family: family, Addr: a, Mask: mask, Metric: 1})
			}
		}
	}
	return l
}

// P4.2: each reason where it alone is so, and the ends of each.
func TestWhy(t *testing.T) {
	rows := []struct {
		bend func(*api.Entry)
		want api.Reason
	}{
		{func(*api.Entry) {}, api.ReasonFine},
		{func(x *api.Entry) { x.Family = 0 }, api.ReasonFamily},
		{func(x *api.Entry) { x.Family = 1 }, api.ReasonFamily},
		{func(x *api.Entry) { x.Family = 3 }, api.ReasonFamily},
		{func(x *api.Entry) { x.Family = -2 }, api.ReasonFamily},
		{func(x *api.Entry) { x.Family = 65538 }, api.ReasonFamily},
		{func(x *api.Entry) { x.Family = 1<<32 + 2 }, api.ReasonFamily},
		{func(x *api.Entry) { x.Family = 0xffff }, api.ReasonFamily},
		{func(x *api.Entry) { x.Mask = 0xff00ff00 }, api.ReasonMask},
		{func(x *api.Entry) { x.Mask = 1 }, api.ReasonMask},
		{func(x *api.Entry) { x.Mask = 0x7fffffff }, api.ReasonMask},
		{func(x *api.Entry) { x.Addr = 0x0a010001 }, api.ReasonBits},
		{func(x *api.Entry) { x.Addr = 0x0a018000 }, api.ReasonBits},
		{func(x *api.Entry) { x.Mask = 0 }, api.ReasonBits},
		{func(x *api.Entry) { x.Mask = 0xffff8000 }, api.ReasonFine},
		{func(x *api.Entry) { x.Mask = 0xfffe0000 }, api.ReasonBits},
		{func(x *api.Entry) { x.Mask = 0xffffffff }, api.ReasonFine},
		{func(x *api.Entry) { x.Addr = 0x7f000000 }, api.ReasonKind},
		{func(x *api.Entry) { x.Addr = 0x7fff0000 }, api.ReasonKind},
		{func(x *api.Entry) { x.Addr = 0x7eff0000 }, api.ReasonFine},
		{func(x *api.Entry) { x.Addr = 0x80000000 }, api.ReasonFine},
		{func(x *api.Entry) { x.Addr = 0xdfff0000 }, api.ReasonFine},
		{func(x *api.Entry) { x.Addr = 0xe0000000 }, api.ReasonKind},
		{func(x *api.Entry) { x.Addr = 0xefff0000 }, api.ReasonKind},
		{func(x *api.Entry) { x.Addr = 0xf0000000 }, api.ReasonKind},
		{func(x *api.Entry) { x.Addr, x.Mask = 0xffffffff, 0xffffffff }, api.ReasonKind},
		{func(x *api.Entry) { x.Addr = 0x00010000 }, api.ReasonKind},
		{func(x *api.Entry) { x.Addr, x.Mask = 1, 0xffffffff }, api.ReasonKind},
		{func(x *api.Entry) { x.Addr = 0x01000000 }, api.ReasonFine},
		{func(x *api.Entry) { x.Addr = 0 }, api.ReasonKind},
		{func(x *api.Entry) { x.Addr, x.Mask = 0, 0x80000000 }, api.ReasonKind},
		{func(x *api.Entry) { x.Addr, x.Mask = 0, 0xffffffff }, api.ReasonKind},
		{func(x *api.Entry) { x.Addr, x.Mask = 0, 0 }, api.ReasonFine},
		{func(x *api.Entry) { x.Next = 1 }, api.ReasonNext},
		{func(x *api.Entry) { x.Next = 0x0a010001 }, api.ReasonNext},
		{func(x *api.Entry) { x.Next = 0xffffffff }, api.ReasonNext},
		{func(x *api.Entry) { x.Metric = 0 }, api.ReasonMetric},
		{func(x *api.Entry) { x.Metric = 1 }, api.ReasonFine},
		{func(x *api.Entry) { x.Metric = 16 }, api.ReasonFine},
		{func(x *api.Entry) { x.Metric = 17 }, api.ReasonMetric},
		{func(x *api.Entry) { x.Metric = 257 }, api.ReasonMetric},
		{func(x *api.Entry) { x.Metric = 0x80000001 }, api.ReasonMetric},
		{func(x *api.Entry) { x.Metric = math.MaxUint32 }, api.ReasonMetric},
		// no reason speaks of the Tag
		{func(x *api.Entry) { x.Tag = 65535 }, api.ReasonFine},
		{func(x *api.Entry) { x.Tag = 65536 }, api.ReasonFine},
		{func(x *api.Entry) { x.Tag = -1 }, api.ReasonFine},
		{func(x *api.Entry) { x.Tag = math.MinInt }, api.ReasonFine},
	}
	for i, r := range rows {
		x := good()
		r.bend(&x)
		if got := entry.Why(x); got != r.want {
			t.Errorf("row %d: Why(%x) = %d, want %d", i, x, got, r.want)
		}
	}
	if r := entry.Why(entry.All()); r != api.ReasonFamily {
		t.Errorf("Why(All()) = %d", r)
	}
	if r := entry.Why(api.Entry{}); r != api.ReasonFamily {
		t.Errorf("Why of the zero entry = %d", r)
	}
}

// P4.2: where several are so, the first one is told.
func TestWhyTellsTheFirstReason(t *testing.T) {
	bends := []func(*api.Entry){
		func(x *api.Entry) { x.Family = 1 },
		func(x *api.Entry) { x.Mask = 0xffff0001 },
		func(x *api.Entry) { x.Addr |= 0x100 },
		func(x *api.Entry) { x.Addr = x.Addr&0xffff | 0x7f000000 },
		func(x *api.Entry) { x.Next = 1 },
		func(x *api.Entry) { x.Metric = 0 },
	}
	for set := range 1 << len(bends) {
		x, want := good(), api.ReasonFine
		for i, bend := range bends {
			if set>>i&1 == 1 {
				bend(&x)
				if want == api.ReasonFine {
					want = api.Reason(i + 1)
				}
			}
		}
		if got := entry.Why(x); got != want {
			t.Errorf("Why(%x) = %d, want %d", x, got, want)
		}
	}
}

// P4.2
func TestWhyOfAnyEntry(t *testing.T) {
	for _, x := range bent() {
		if got := entry.Why(x); got != why(x) {
			t.Errorf("Why(%x) = %d, want %d", x, got, why(x))
		}
	}
}

// P4.2
func TestName(t *testing.T) {
	want := []string{"fine", "family", "mask", "bits", "kind", "next", "metric"}
	for i, s := range want {
		if got := entry.Name(api.Reason(i)); got != s {
			t.Errorf("Name(%d) = %q, want %q", i, got, s)
		}
	}
	for _, n := range append(ints(), 7, 9, 64) {
		if n >= 0 && n < len(want) {
			continue
		}
		if got := entry.Name(api.Reason(n)); got != "" {
			t.Errorf("Name(%d) = %q, want nothing", n, got)
		}
	}
}

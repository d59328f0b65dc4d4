package entry

import (
	"waywarden/addr"
	"waywarden/api"
	"waywarden/prefix"
)

// rule says of which entries a reason is so.
type rule struct {
	reason api.Reason
	isSo   func(api.Entry) bool
}

// rules has the reasons in the order in which they are asked for.
func rules() []rule {
	return []rule{
		{api.ReasonFamily, func(e api.Entry) bool { return e.Family != family }},
		{api.ReasonMask, func(e api.Entry) bool { return !isMask(e.Mask) }},
		{api.ReasonBits, func(e api.Entry) bool { return e.Addr&^e.Mask != 0 }},
		{api.ReasonKind, func(e api.Entry) bool { return !isToldOf(e.Addr, e.Mask) }},
		{api.ReasonNext, func(e api.Entry) bool { return e.Next != 0 }},
		{api.ReasonMetric, func(e api.Entry) bool { return !isMetric(e.Metric) }},
	}
}

// Why: P4.2.
func Why(e api.Entry) api.Reason {
	for _, r := range rules() {
		if r.isSo(e) {
			return r.reason
		}
	}
	return api.ReasonFine
}

// Name: P4.2.
func Name(r api.Reason) (name string) {
	// Where no name was put the assertion panics, and the name stays empty.
	defer func() { _ = recover() }()
	names := [...]any{
		api.ReasonFine:       "fine",
		api.ReasonFamily:     "family",
		api.ReasonMask:       "mask",
		api.ReasonBits:       "bits",
		api.ReasonKind:       "kind",
		api.ReasonNext:       "next",
		api.ReasonMetric:     "metric",
		api.ReasonMetric + 1: nil, // for all that are no reason
	}
	// Below 0 comes round to what is far above.
	return names[min(uint(r), uint(len(names)-1))].(string)
}

func isMask(a api.Addr) bool {
	_, e := prefix.Len(a)
	return e == api.OK
}

// isToldOf is whether an address is of a kind that an entry with that mask may tell of.
func isToldOf(a, mask api.Addr) bool {
	switch addr.Kind(a) {
	case api.AddrHost:
		return true
	case api.AddrZero:
		return mask == 0
	}
	return false
}

func isMetric[N int | uint32](n N) bool {
	return n >= 1 && n <= api.Infinity
}

// Package addr is layer 1: see shared/doc/01-addr.md.
package addr

import "waywarden/api"

// Of: P1.1.
func Of(a, b, c, d byte) api.Addr {
	return together(1<<8, api.Addr(a), api.Addr(b), api.Addr(c), api.Addr(d))
}

// Parts: P1.1.
func Parts(a api.Addr) [4]byte {
	return [4]byte{byte(a >> 24), byte(a >> 16), byte(a >> 8), byte(a)}
}

// Kind: P1.1.
func Kind(a api.Addr) api.AddrKind {
	first := Parts(a)[0]
	for _, r := range rules() {
		if r.has(a, first) {
			return r.kind
		}
	}
	return api.AddrHost
}

// rule says what an address of a kind is, if it is of no kind ahead of that.
type rule struct {
	kind api.AddrKind
	has  func(a api.Addr, first byte) bool
}

// rules has the kinds in the order in which they are asked for, but AddrHost, which is any other.
func rules() []rule {
	return []rule{
		{api.AddrZero, func(a api.Addr, _ byte) bool { return a == 0 }},
		{api.AddrThis, func(_ api.Addr, first byte) bool { return first == 0 }},
		{api.AddrLoop, func(_ api.Addr, first byte) bool { return first == 127 }},
		{api.AddrGroup, func(_ api.Addr, first byte) bool { return first >= 224 && first <= 239 }},
		{api.AddrTop, func(_ api.Addr, first byte) bool { return first >= 240 }},
	}
}

// together is the number with these digits, the highest first.
func together[N ~int | ~uint32](base N, digits ...N) N {
	var n N
	for _, d := range digits {
		n = n*base + d
	}
	return n
}

package addr_test

import (
	"testing"

	"waywarden/addr"
	"waywarden/api"
)

// some are addresses of every part of the range, both ends of it among them.
func some() []api.Addr {
	l := []api.Addr{0, 1, 0xff, 0x100, 0x00ffffff, 0x01000000, 0x0a000102, 0x01020304, 0xff000000, 0x00ff0000, 0x0000ff00, 0x7fffffff, 0x80000000, 0xfffffffe, 0xffffffff}
	for i := api.Addr(0); i < 5000; i++ {
		l = append(l, i*2654435761)
	}
	return l
}

// P1.1
func TestOfHighestFirst(t *testing.T) {
	rows := []struct {
		parts [4]byte
		want  api.Addr
	}{
		{[4]byte{0, 0, 0, 0}, 0},
		{[4]byte{10, 0, 1, 2}, 0x0a000102},
		{[4]byte{1, 2, 3, 4}, 0x01020304},
		{[4]byte{255, 0, 0, 0}, 0xff000000},
		{[4]byte{0, 255, 0, 0}, 0x00ff0000},
		{[4]byte{0, 0, 255, 0}, 0x0000ff00},
		{[4]byte{0, 0, 0, 255}, 0x000000ff},
		{[4]byte{128, 127, 254, 1}, 0x807ffe01},
		{[4]byte{255, 255, 255, 255}, 0xffffffff},
	}
	for _, r := range rows {
		if a := addr.Of(r.parts[0], r.parts[1], r.parts[2], r.parts[3]); a != r.want {
			t.Errorf("Of(%v) = %#x, want %#x", r.parts, a, r.want)
		}
		if p := addr.Parts(r.want); p != r.parts {
			t.Errorf("Parts(%#x) = %v, want %v", r.want, p, r.parts)
		}
	}
}

// P1.1
func TestOfAndPartsOfEachByte(t *testing.T) {
	for n := range 256 {
		b := byte(n)
		for place, shift := range []int{24, 16, 8, 0} {
			parts := [4]byte{1, 1, 1, 1}
			parts[place] = b
			want := api.Addr(0x01010101)&^(0xff<<shift) | api.Addr(n)<<shift
			if a := addr.Of(parts[0], parts[1], parts[2], parts[3]); a != want {
				t.Errorf("Of(%v) = %#x, want %#x", parts, a, want)
			}
			if p := addr.Parts(want); p != parts {
				t.Errorf("Parts(%#x) = %v, want %v", want, p, parts)
			}
		}
	}
}

// P1.1
func TestOfUndoesParts(t *testing.T) {
	for _, a := range some() {
		p := addr.Parts(a)
		if p != [4]byte{byte(a >> 24), byte(a >> 16), byte(a >> 8), byte(a)} {
			t.Errorf("Parts(%#x) = %v", a, p)
		}
		if b := addr.Of(p[0], p[1], p[2], p[3]); b != a {
			t.Errorf("Of(%v) = %#x, want %#x", p, b, a)
		}
	}
}

// P1.1
func TestKindAtTheEndsOfItsRanges(t *testing.T) {
	rows := []struct {
		a    api.Addr
		want api.AddrKind
	}{
		{0x00000000, api.AddrZero},
		{0x00000001, api.AddrThis},
		{0x00000100, api.AddrThis},
		{0x00010000, api.AddrThis},
		{0x00ffffff, api.AddrThis},
		{0x01000000, api.AddrHost},
		{0x0a000102, api.AddrHost},
		{0x7effffff, api.AddrHost},
		{0x7f000000, api.AddrLoop},
		{0x7f000001, api.AddrLoop},
		{0x7fffffff, api.AddrLoop},
		{0x80000000, api.AddrHost},
		{0xc0a80001, api.AddrHost},
		{0xdfffffff, api.AddrHost},
		{0xe0000000, api.AddrGroup},
		{0xe0000009, api.AddrGroup},
		{0xefffffff, api.AddrGroup},
		{0xf0000000, api.AddrTop},
		{0xfffffffe, api.AddrTop},
		{0xffffffff, api.AddrTop},
	}
	for _, r := range rows {
		if k := addr.Kind(r.a); k != r.want {
			t.Errorf("Kind(%#x) = %d, want %d", r.a, k, r.want)
		}
	}
}

// P1.1: of what is not 0.0.0.0 the first part alone says the kind.
func TestKindOfEachFirstPart(t *testing.T) {
	for n := range 256 {
		want := api.AddrHost
		switch {
		case n == 0:
			want = api.AddrThis
		case n == 127:
			want = api.AddrLoop
		case n >= 224 && n <= 239:
			want = api.AddrGroup
		case n >= 240:
			want = api.AddrTop
		}
		for _, low := range []api.Addr{0, 1, 127, 0x7f0000, 0xe00000, 0x800000, 0xffffff} {
			a := api.Addr(n)<<24 | low
			if a == 0 {
				continue
			}
			if k := addr.Kind(a); k != want {
				t.Errorf("Kind(%#x) = %d, want %d", a, k, want)
			}
		}
	}
}

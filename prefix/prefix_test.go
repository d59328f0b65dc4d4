package prefix_test

import (
	"fmt"
	"math"
	"strings"
	"testing"

	"waywarden/api"
	"waywarden/prefix"
)

// digits are an address's bits, the highest one first.
func digits(a api.Addr) string {
	return fmt.Sprintf("%032b", uint32(a))
}

// number is the address with these first bits, the others 0.
func number(bits string) api.Addr {
	var n uint64
	for i := range 32 {
		n *= 2
		if i < len(bits) && bits[i] == '1' {
			n++
		}
	}
	return api.Addr(n)
}

// made is the prefix with these first bits.
func made(bits string) api.Prefix {
	return api.Prefix{Addr: number(bits), Len: len(bits)}
}

// first are the bits that count in a prefix that may be.
func first(p api.Prefix) string {
	return digits(p.Addr)[:p.Len]
}

// mayBe: it is written apart from the program, by the bits as a text.
func mayBe(p api.Prefix) bool {
	return p.Len >= 0 && p.Len <= 32 && !strings.Contains(digits(p.Addr)[p.Len:], "1")
}

// lengths are Lens from below what may be to above it, and huge ones.
func lengths() []int {
	l := []int{math.MinInt, math.MinInt + 1, math.MinInt32, -1 << 32, -64, -33, -32, -31, -2, -1}
	for n := range 70 {
		l = append(l, n)
	}
	return append(l, 255, 256, 1<<31-1, 1<<31, 1<<32, 1<<32+8, 1<<62, math.MaxInt-1, math.MaxInt)
}

// addrs are addresses of every part of the range, both ends of it among them.
func addrs() []api.Addr {
	l := []api.Addr{0, 1, 2, 0x0a000000, 0x0a000107, 0x0a010000, 0x7fffffff, 0x80000000, 0x80000001, 0xaaaaaaaa, 0x55555555, 0xfffffffe, 0xffffffff, 0xff00ff00}
	for i := range api.Addr(200) {
		l = append(l, i*2654435761)
	}
	return l
}

// some are prefixes that may be, of each Len, many around others.
func some() []api.Prefix {
	var l []api.Prefix
	for n := range 4 {
		for i := range 1 << n {
			l = append(l, api.Prefix{Addr: api.Addr(i) << (32 - n), Len: n})
		}
	}
	for _, a := range []api.Addr{0, 1, 0x0a000107, 0x0a010000, 0x80000000, 0x55555555, 0xfffffffe, 0xffffffff} {
		for n := range 33 {
			l = append(l, made(digits(a)[:n]))
		}
	}
	return l
}

// wrong are prefixes that may not be.
func wrong() []api.Prefix {
	l := []api.Prefix{{Addr: 0x0a000001, Len: 8}, {Addr: 1, Len: 0}, {Addr: 1, Len: 31}, {Addr: 0x80000000, Len: 0}, {Addr: 0xffffffff, Len: 31}, {Addr: 0x00800000, Len: 8}, {Addr: 0x01000000, Len: 7}}
	for _, n := range lengths() {
		if n < 0 || n > 32 {
			l = append(l, api.Prefix{Len: n}, api.Prefix{Addr: 0x0a000000, Len: n}, api.Prefix{Addr: 0xffffffff, Len: n})
		}
	}
	return l
}

// P2.1
func TestCheck(t *testing.T) {
	rows := map[api.Prefix]api.Errno{
		{Addr: 0, Len: 0}:            api.OK,
		{Addr: 0, Len: 32}:           api.OK,
		{Addr: 0, Len: 33}:           api.ErrArg,
		{Addr: 0, Len: -1}:           api.ErrArg,
		{Addr: 0x0a000000, Len: 33}:  api.ErrArg,
		{Addr: 0x0a000000, Len: 7}:   api.OK,
		{Addr: 0x0a000000, Len: 6}:   api.ErrArg,
		{Addr: 0x0a000000, Len: 8}:   api.OK,
		{Addr: 0x0a000001, Len: 8}:   api.ErrArg,
		{Addr: 0x0a800000, Len: 8}:   api.ErrArg,
		{Addr: 0x0a800000, Len: 9}:   api.OK,
		{Addr: 0xffffffff, Len: 32}:  api.OK,
		{Addr: 0xffffffff, Len: 31}:  api.ErrArg,
		{Addr: 0xfffffffe, Len: 31}:  api.OK,
		{Addr: 0x80000000, Len: 0}:   api.ErrArg,
		{Addr: 0x80000000, Len: 1}:   api.OK,
		{Addr: 0xffffffff, Len: 64}:  api.ErrArg,
		{Addr: 0xffffffff, Len: -32}: api.ErrArg,
	}
	for p, want := range rows {
		if e := prefix.Check(p); e != want {
			t.Errorf("Check(%v) = %d, want %d", p, e, want)
		}
	}
	for _, a := range addrs() {
		for _, n := range lengths() {
			p := api.Prefix{Addr: a, Len: n}
			want := api.ErrArg
			if mayBe(p) {
				want = api.OK
			}
			if e := prefix.Check(p); e != want {
				t.Errorf("Check(%v) = %d, want %d", p, e, want)
			}
		}
	}
	for _, p := range wrong() {
		if e := prefix.Check(p); e != api.ErrArg {
			t.Errorf("Check(%v) = %d, want %d", p, e, api.ErrArg)
		}
	}
}

// P2.1
func TestOf(t *testing.T) {
	if p, e := prefix.Of(0x0a000107, 24); p != (api.Prefix{Addr: 0x0a000100, Len: 24}) || e != api.OK {
		t.Errorf("Of(10.0.1.7, 24) = %v, %d", p, e)
	}
	for _, a := range addrs() {
		for _, n := range lengths() {
			p, e := prefix.Of(a, n)
			if n < 0 || n > 32 {
				if p != (api.Prefix{}) || e != api.ErrArg {
					t.Errorf("Of(%#x, %d) = %v, %d, want nothing, %d", a, n, p, e, api.ErrArg)
				}
				continue
			}
			if want := made(digits(a)[:n]); p != want || e != api.OK {
				t.Errorf("Of(%#x, %d) = %v, %d, want %v", a, n, p, e, want)
			}
		}
	}
}

// P2.1
func TestMask(t *testing.T) {
	rows := map[int]api.Addr{0: 0, 1: 0x80000000, 2: 0xc0000000, 8: 0xff000000, 20: 0xfffff000, 31: 0xfffffffe, 32: 0xffffffff}
	for n, want := range rows {
		if m, e := prefix.Mask(n); m != want || e != api.OK {
			t.Errorf("Mask(%d) = %#x, %d, want %#x", n, m, e, want)
		}
	}
	for _, n := range lengths() {
		m, e := prefix.Mask(n)
		if n < 0 || n > 32 {
			if m != 0 || e != api.ErrArg {
				t.Errorf("Mask(%d) = %#x, %d, want 0, %d", n, m, e, api.ErrArg)
			}
			continue
		}
		if want := number(strings.Repeat("1", n)); m != want || e != api.OK {
			t.Errorf("Mask(%d) = %#x, %d, want %#x", n, m, e, want)
		}
	}
}

// P2.1
func TestLen(t *testing.T) {
	check := func(m api.Addr) {
		t.Helper()
		n, e := prefix.Len(m)
		d := digits(m)
		if strings.Contains(d, "01") {
			if n != 0 || e != api.ErrPrefix {
				t.Errorf("Len(%#x) = %d, %d, want 0, %d", m, n, e, api.ErrPrefix)
			}
			return
		}
		if want := strings.Count(d, "1"); n != want || e != api.OK {
			t.Errorf("Len(%#x) = %d, %d, want %d", m, n, e, want)
		}
	}
	for _, m := range addrs() {
		check(m)
	}
	// each mask, and each with one bit turned, and with one added
	for n := range 33 {
		m := number(strings.Repeat("1", n))
		check(m)
		check(m + 1)
		check(m - 1)
		check(^m)
		for i := range 32 {
			check(m ^ 1<<i)
		}
	}
}

// P2.5
func TestLenUndoesMask(t *testing.T) {
	seen := map[api.Addr]bool{}
	for n := range 33 {
		m, e := prefix.Mask(n)
		if e != api.OK || seen[m] {
			t.Errorf("Mask(%d) = %#x, %d", n, m, e)
		}
		seen[m] = true
		if back, e := prefix.Len(m); back != n || e != api.OK {
			t.Errorf("Len(Mask(%d)) = %d, %d", n, back, e)
		}
	}
}

// P2.1
func TestHas(t *testing.T) {
	rows := []struct {
		p    api.Prefix
		a    api.Addr
		want bool
	}{
		{api.Prefix{}, 0x01020304, true},
		{api.Prefix{}, 0, true},
		{api.Prefix{}, 0xffffffff, true},
		{api.Prefix{Addr: 0x0a000000, Len: 8}, 0x0a000000, true},
		{api.Prefix{Addr: 0x0a000000, Len: 8}, 0x0affffff, true},
		{api.Prefix{Addr: 0x0a000000, Len: 8}, 0x0b000000, false},
		{api.Prefix{Addr: 0x0a000000, Len: 8}, 0x09ffffff, false},
		{api.Prefix{Addr: 0x0a000001, Len: 32}, 0x0a000001, true},
		{api.Prefix{Addr: 0x0a000001, Len: 32}, 0x0a000000, false},
		{api.Prefix{Addr: 0x0a000001, Len: 32}, 0x0a000002, false},
		{api.Prefix{Addr: 0x80000000, Len: 1}, 0x7fffffff, false},
		{api.Prefix{Addr: 0x80000000, Len: 1}, 0x80000000, true},
		// those that may not be have none, not even their own
		{api.Prefix{Addr: 0x0a000001, Len: 8}, 0x0a000001, false},
		{api.Prefix{Addr: 0x0a000001, Len: 8}, 0x0a000000, false},
		{api.Prefix{Len: 33}, 0, false},
		{api.Prefix{Len: -1}, 0, false},
	}
	for _, r := range rows {
		if has := prefix.Has(r.p, r.a); has != r.want {
			t.Errorf("Has(%v, %#x) = %t", r.p, r.a, has)
		}
	}
	for _, p := range some() {
		for _, a := range addrs() {
			want := strings.HasPrefix(digits(a), first(p))
			if has := prefix.Has(p, a); has != want {
				t.Errorf("Has(%v, %#x) = %t", p, a, has)
			}
		}
	}
	for _, p := range wrong() {
		for _, a := range append(addrs(), p.Addr) {
			if prefix.Has(p, a) {
				t.Errorf("Has(%v, %#x), but it may not be", p, a)
			}
		}
	}
}

// P2.1
func TestBit(t *testing.T) {
	for _, a := range addrs() {
		d := digits(a)
		for _, i := range lengths() {
			want := 0
			if i >= 0 && i < 32 && d[i] == '1' {
				want = 1
			}
			if b := prefix.Bit(a, i); b != want {
				t.Errorf("Bit(%#x, %d) = %d, want %d", a, i, b, want)
			}
		}
	}
}

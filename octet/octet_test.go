package octet_test

import (
	"bytes"
	"cmp"
	"encoding/binary"
	"math"
	"math/rand"
	"slices"
	"testing"

	"waywarden/api"
	"waywarden/octet"
)

// ints are numbers that are no width, no place, or no count, for the most part: those near the ones that are, and those that come round to them.
func ints() []int {
	return []int{math.MinInt, math.MinInt + 1, -1 << 32, -1<<32 + 1, -1 << 31, -256, -255, -8, -4, -3, -2, -1, 0, 1, 2, 3, 4, 5, 6, 7, 8, 9, 16, 32, 64, 255, 256, 257, 258, 260, 1 << 16, 1<<16 + 1, 1<<31 - 1, 1 << 31, 1<<32 - 1, 1 << 32, 1<<32 + 1, 1<<32 + 2, 1<<32 + 4, 1 << 61, 1 << 62, 1<<62 + 1, math.MaxInt - 4, math.MaxInt - 3, math.MaxInt - 2, math.MaxInt - 1, math.MaxInt}
}

func isWidth(width int) bool {
	return width == 1 || width == 2 || width == 4
}

// numbers are some of every part of the range, the ends of each width among them.
func numbers() []uint32 {
	l := []uint32{0, 1, 2, 127, 128, 254, 255, 256, 257, 258, 0x7fff, 0x8000, 0xfffe, 0xffff, 0x10000, 0x10001, 0xffffff, 0x1000000, 0x01020304, 0x04030201, 0x7fffffff, 0x80000000, 0xff000000, 0x00ff0000, 0x0000ff00, 0xfffffffe, 0xffffffff}
	for i := range 32 {
		l = append(l, 1<<i, 1<<i-1)
	}
	for i := range uint32(2000) {
		l = append(l, i*2654435761, i*2654435761>>16, i*2654435761>>24)
	}
	return l
}

// asBytes is a number's bytes, by the library's own means: nothing of a number that the width does not hold.
func asBytes(n uint32, width int) []byte {
	switch {
	case width == 1 && n <= math.MaxUint8:
		return []byte{byte(n)}
	case width == 2 && n <= math.MaxUint16:
		return binary.BigEndian.AppendUint16(nil, uint16(n))
	case width == 4:
		return binary.BigEndian.AppendUint32(nil, n)
	}
	return nil
}

// asNumber is the number that the first bytes are.
func asNumber(b []byte, width int) uint32 {
	switch width {
	case 1:
		return uint32(b[0])
	case 2:
		return uint32(binary.BigEndian.Uint16(b))
	}
	return binary.BigEndian.Uint32(b)
}

// P3.1
func TestPut(t *testing.T) {
	rows := []struct {
		n     uint32
		width int
		want  string
		e     api.Errno
	}{
		{258, 2, "\x01\x02", api.OK},
		{0, 1, "\x00", api.OK},
		{0, 2, "\x00\x00", api.OK},
		{0, 4, "\x00\x00\x00\x00", api.OK},
		{1, 1, "\x01", api.OK},
		{1, 2, "\x00\x01", api.OK},
		{1, 4, "\x00\x00\x00\x01", api.OK},
		{255, 1, "\xff", api.OK},
		{255, 2, "\x00\xff", api.OK},
		{256, 2, "\x01\x00", api.OK},
		{65535, 2, "\xff\xff", api.OK},
		{65535, 4, "\x00\x00\xff\xff", api.OK},
		{65536, 4, "\x00\x01\x00\x00", api.OK},
		{0x01020304, 4, "\x01\x02\x03\x04", api.OK},
		{0x80000000, 4, "\x80\x00\x00\x00", api.OK},
		{0xffffffff, 4, "\xff\xff\xff\xff", api.OK},
		// a number that its width does not hold
		{256, 1, "", api.ErrRange},
		{257, 1, "", api.ErrRange},
		{65536, 1, "", api.ErrRange},
		{0x01000000, 1, "", api.ErrRange},
		{0xffffff00, 1, "", api.ErrRange},
		{0xffffffff, 1, "", api.ErrRange},
		{65536, 2, "", api.ErrRange},
		{65537, 2, "", api.ErrRange},
		{0x01000000, 2, "", api.ErrRange},
		{0xffff0000, 2, "", api.ErrRange},
		{0xffffffff, 2, "", api.ErrRange},
		// a width that is none, ahead of that
		{1, 3, "", api.ErrArg},
		{0, 0, "", api.ErrArg},
		{1, 0, "", api.ErrArg},
		{0xffffffff, 0, "", api.ErrArg},
		{0xffffffff, 3, "", api.ErrArg},
		{256, -1, "", api.ErrArg},
		{0, 5, "", api.ErrArg},
		{0, 8, "", api.ErrArg},
	}
	for _, r := range rows {
		if b, e := octet.Put(r.n, r.width); string(b) != r.want || e != r.e {
			t.Errorf("Put(%d, %d) = % x, %d, want % x, %d", r.n, r.width, b, e, r.want, r.e)
		}
	}
}

// P3.1
func TestPutOfNumbersOfEachWidth(t *testing.T) {
	for _, n := range numbers() {
		for _, width := range []int{1, 2, 4} {
			want, wantE := asBytes(n, width), api.OK
			if want == nil {
				wantE = api.ErrRange
			}
			if b, e := octet.Put(n, width); !bytes.Equal(b, want) || e != wantE {
				t.Errorf("Put(%d, %d) = % x, %d, want % x, %d", n, width, b, e, want, wantE)
			}
		}
	}
}

// P3.1
func TestPutOfWhatIsNoWidth(t *testing.T) {
	for _, width := range ints() {
		for _, n := range []uint32{0, 1, 255, 256, 65536, 0xffffffff} {
			if b, e := octet.Put(n, width); !isWidth(width) && (len(b) != 0 || e != api.ErrArg) {
				t.Errorf("Put(%d, %d) = % x, %d, want nothing, %d", n, width, b, e, api.ErrArg)
			}
		}
	}
}

// P3.1: an answer is new memory.
func TestPutAnswersNewBytes(t *testing.T) {
	for _, width := range []int{1, 2, 4} {
		a, _ := octet.Put(7, width)
		b, _ := octet.Put(7, width)
		for i := range a {
			a[i] = 99
		}
		_ = append(a, 99)
		if !bytes.Equal(b, asBytes(7, width)) {
			t.Errorf("two answers of Put(7, %d) share memory", width)
		}
	}
}

// P3.1
func TestRead(t *testing.T) {
	three, four := []byte{1, 2, 3}, []byte{0xfe, 0xdc, 0xba, 0x98}
	rows := []struct {
		b         []byte
		at, width int
		want      uint32
		e         api.Errno
	}{
		{three, 1, 2, 515, api.OK},
		{three, 0, 1, 1, api.OK},
		{three, 1, 1, 2, api.OK},
		{three, 2, 1, 3, api.OK},
		{three, 0, 2, 258, api.OK},
		{four, 0, 4, 0xfedcba98, api.OK},
		{four, 0, 2, 0xfedc, api.OK},
		{four, 2, 2, 0xba98, api.OK},
		{four, 3, 1, 0x98, api.OK},
		{[]byte{0, 0, 0, 0}, 0, 4, 0, api.OK},
		{[]byte{0xff, 0xff, 0xff, 0xff}, 0, 4, 0xffffffff, api.OK},
		{[]byte{9, 0, 0, 0, 1}, 1, 4, 1, api.OK},
		// the bytes end ahead of the number's end, or of the place
		{three, 2, 2, 0, api.ErrEnds},
		{three, 3, 1, 0, api.ErrEnds},
		{three, 4, 1, 0, api.ErrEnds},
		{three, 0, 4, 0, api.ErrEnds},
		{four, 1, 4, 0, api.ErrEnds},
		{nil, 0, 1, 0, api.ErrEnds},
		{[]byte{}, 0, 1, 0, api.ErrEnds},
		{nil, 1, 4, 0, api.ErrEnds},
		{three, math.MaxInt, 1, 0, api.ErrEnds},
		{three, math.MaxInt, 4, 0, api.ErrEnds},
		{nil, math.MaxInt - 1, 2, 0, api.ErrEnds},
		// a place below 0, ahead of that
		{three, -1, 1, 0, api.ErrRange},
		{three, -1, 2, 0, api.ErrRange},
		{three, -4, 4, 0, api.ErrRange},
		{nil, -1, 1, 0, api.ErrRange},
		{three, math.MinInt, 4, 0, api.ErrRange},
		// a width that is none, ahead of all
		{three, 0, 3, 0, api.ErrArg},
		{three, 0, 0, 0, api.ErrArg},
		{three, 3, 0, 0, api.ErrArg},
		{three, 0, -1, 0, api.ErrArg},
		{three, -1, 3, 0, api.ErrArg},
		{three, 9, 3, 0, api.ErrArg},
		{nil, -1, 0, 0, api.ErrArg},
		{make([]byte, 20), 0, 8, 0, api.ErrArg},
		{three, math.MaxInt, math.MaxInt, 0, api.ErrArg},
		{three, math.MinInt, math.MinInt, 0, api.ErrArg},
	}
	for _, r := range rows {
		if n, e := octet.Read(r.b, r.at, r.width); n != r.want || e != r.e {
			t.Errorf("Read(% x, %d, %d) = %d, %d, want %d, %d", r.b, r.at, r.width, n, e, r.want, r.e)
		}
	}
}

// P3.1: bytes of each length, each place, each width, and what is none.
func TestReadAtEachPlace(t *testing.T) {
	room := []byte{0x81, 0x92, 0xa3, 0xb4, 0xc5, 0xd6, 0xe7, 0xf8, 0x09, 0x1a, 0x2b}
	for n := range len(room) + 1 {
		// What stands behind the bytes, in spare room, is none of them.
		b := room[:n]
		for _, at := range ints() {
			for _, width := range ints() {
				var want uint32
				wantE := api.OK
				switch {
				case !isWidth(width):
					wantE = api.ErrArg
				case at < 0:
					wantE = api.ErrRange
				case at > n || at+width > n:
					wantE = api.ErrEnds
				default:
					want = asNumber(b[at:], width)
				}
				if got, e := octet.Read(b, at, width); got != want || e != wantE {
					t.Errorf("Read(% x, %d, %d) = %d, %d, want %d, %d", b, at, width, got, e, want, wantE)
				}
			}
		}
	}
}

// P3.5
func TestReadUndoesPut(t *testing.T) {
	for _, n := range numbers() {
		for _, width := range []int{1, 2, 4} {
			b, e := octet.Put(n, width)
			if e != api.OK {
				continue
			}
			if back, e := octet.Read(b, 0, width); back != n || e != api.OK {
				t.Errorf("Read of Put(%d, %d) = %d, %d", n, width, back, e)
			}
		}
	}
}

// P3.5
func TestPutUndoesRead(t *testing.T) {
	draw := rand.New(rand.NewSource(1))
	b := make([]byte, 500)
	for i := range b {
		b[i] = byte(draw.Intn(256))
	}
	for _, width := range []int{1, 2, 4} {
		for at := range len(b) - width + 1 {
			n, e := octet.Read(b, at, width)
			if e != api.OK {
				t.Fatalf("Read(.., %d, %d): %d", at, width, e)
			}
			if back, e := octet.Put(n, width); !bytes.Equal(back, b[at:at+width]) || e != api.OK {
				t.Errorf("Put of Read(% x) = % x, %d", b[at:at+width], back, e)
			}
		}
	}
	// Each byte, and each two: all of them.
	for i := range 1 << 16 {
		two := []byte{byte(i >> 8), byte(i)}
		n, e := octet.Read(two, 0, 2)
		if n != uint32(i) || e != api.OK {
			t.Fatalf("Read(% x, 0, 2) = %d, %d", two, n, e)
		}
		if back, e := octet.Put(n, 2); !bytes.Equal(back, two) || e != api.OK {
			t.Fatalf("Put(%d, 2) = % x, %d", n, back, e)
		}
	}
}

// P3.5: numbers of one width stand in the order of their bytes.
func TestNumbersStandAsTheirBytes(t *testing.T) {
	l := numbers()[:400]
	for _, width := range []int{1, 2, 4} {
		for _, n := range l {
			for _, m := range l {
				a, e := octet.Put(n, width)
				b, f := octet.Put(m, width)
				if e == api.OK && f == api.OK && bytes.Compare(a, b) != cmp.Compare(n, m) {
					t.Errorf("of width %d, %d and %d do not stand as % x and % x", width, n, m, a, b)
				}
			}
		}
	}
}

// told is one thing that Each tells.
type told struct {
	at int
	n  uint32
}

func all(b []byte, width int) []told {
	var l []told
	for at, n := range octet.Each(b, width) {
		l = append(l, told{at, n})
	}
	return l
}

// asTold is what Each is to tell.
func asTold(b []byte, width int) []told {
	var l []told
	for at := 0; isWidth(width) && at+width <= len(b); at += width {
		l = append(l, told{at, asNumber(b[at:], width)})
	}
	return l
}

// P3.2
func TestEach(t *testing.T) {
	rows := []struct {
		b     string
		width int
		want  []told
	}{
		{"", 1, nil},
		{"", 2, nil},
		{"", 4, nil},
		{"\x07", 1, []told{{0, 7}}},
		{"\x07", 2, nil},
		{"\x07", 4, nil},
		{"\x01\x02\x03", 1, []told{{0, 1}, {1, 2}, {2, 3}}},
		{"\x01\x02\x03", 2, []told{{0, 258}}},
		{"\x01\x02\x03", 4, nil},
		{"\x01\x02\x03\x04", 2, []told{{0, 258}, {2, 772}}},
		{"\x01\x02\x03\x04", 4, []told{{0, 0x01020304}}},
		{"\x01\x02\x03\x04\x05\x06\x07", 4, []told{{0, 0x01020304}}},
		{"\x01\x02\x03\x04\xff\xff\xff\xff", 4, []told{{0, 0x01020304}, {4, 0xffffffff}}},
		{"\x00\x00\x00\x00\x00", 2, []told{{0, 0}, {2, 0}}},
		// widths that are none
		{"\x01\x02\x03\x04", 0, nil},
		{"\x01\x02\x03\x04", 3, nil},
		{"\x01\x02\x03\x04", -1, nil},
		{"\x01\x02\x03\x04", -4, nil},
		{"\x01\x02\x03\x04\x05\x06\x07\x08", 8, nil},
	}
	for _, r := range rows {
		if l := all([]byte(r.b), r.width); !slices.Equal(l, r.want) {
			t.Errorf("Each(% x, %d) tells %v, want %v", r.b, r.width, l, r.want)
		}
	}
	if l := all(nil, 1); l != nil {
		t.Errorf("Each of nil tells %v", l)
	}
}

// P3.2: bytes of each length, with spare room behind, which is not told.
func TestEachOfEachLength(t *testing.T) {
	room := []byte("\x81\x92\xa3\xb4\xc5\xd6\xe7\xf8\x09\x1a\x2b\x3c\x4d\x5e\x6f\x70\x00\x00\xff\xff")
	before := slices.Clone(room)
	for n := range len(room) + 1 {
		for _, width := range ints() {
			if l := all(room[:n], width); !slices.Equal(l, asTold(room[:n], width)) {
				t.Errorf("Each(% x, %d) tells %v", room[:n], width, l)
			}
		}
	}
	if !bytes.Equal(room, before) {
		t.Errorf("Each left % x", room)
	}
}

// P3.2: of a width that is none it is there, and tells nothing.
func TestEachOfWhatIsNoWidth(t *testing.T) {
	for _, width := range ints() {
		it := octet.Each([]byte{1, 2, 3, 4, 5, 6, 7, 8}, width)
		if it == nil {
			t.Fatalf("Each of width %d is nil", width)
		}
		for at, n := range it {
			if !isWidth(width) {
				t.Errorf("Each of width %d tells %d at %d", width, n, at)
			}
		}
	}
}

// P3.2: it may be left at any time, and gone over again, from the beginning on.
func TestEachMayBeLeftAndGoneOverAgain(t *testing.T) {
	b := []byte{1, 2, 3, 4, 5, 6, 7, 8, 9}
	for _, width := range []int{1, 2, 4} {
		want := asTold(b, width)
		it := octet.Each(b, width)
		for n := range 3 * len(want) {
			stop := n%len(want) + 1
			var l []told
			it(func(at int, n uint32) bool {
				l = append(l, told{at, n})
				return len(l) < stop
			})
			if !slices.Equal(l, want[:stop]) {
				t.Errorf("of width %d, left behind %d, it has told %v", width, stop, l)
			}
		}
		for range 2 {
			var l []told
			for at, n := range it {
				l = append(l, told{at, n})
			}
			if !slices.Equal(l, want) {
				t.Errorf("of width %d, gone over again, it tells %v", width, l)
			}
		}
	}
}

// P3.2: two that go over the same bytes do not hinder each other.
func TestEachWithinItself(t *testing.T) {
	it := octet.Each([]byte{0, 1, 0, 2, 0, 3}, 2)
	var l []int
	for at := range it {
		for within := range it {
			l = append(l, 10*at+within)
		}
	}
	if want := []int{0, 2, 4, 20, 22, 24, 40, 42, 44}; !slices.Equal(l, want) {
		t.Errorf("it tells %v, want %v", l, want)
	}
}

// P3.2: what it goes over is as it was when Each was called.
func TestEachTellsTheBytesAsTheyWere(t *testing.T) {
	b := []byte{1, 2, 3, 4, 5, 6, 7, 8}
	for _, width := range []int{1, 2, 4} {
		own := slices.Clone(b)
		it := octet.Each(own, width)
		var l []told
		for at, n := range it {
			clear(own)
			l = append(l, told{at, n})
		}
		if !slices.Equal(l, asTold(b, width)) {
			t.Errorf("of width %d, changed meanwhile, it tells %v", width, l)
		}
		l = nil
		for at, n := range it {
			l = append(l, told{at, n})
		}
		if !slices.Equal(l, asTold(b, width)) {
			t.Errorf("of width %d, changed ahead of it, it tells %v", width, l)
		}
	}
}

// P3.2
func TestEachOfManyBytes(t *testing.T) {
	b := make([]byte, 1<<20+3)
	for i := range b {
		b[i] = byte(i * 7)
	}
	for _, width := range []int{1, 2, 4} {
		at, many := 0, 0
		for place, n := range octet.Each(b, width) {
			if place != at || n != asNumber(b[at:], width) {
				t.Fatalf("of width %d, the number %d is told at %d", width, n, place)
			}
			at, many = at+width, many+1
		}
		if many != len(b)/width {
			t.Errorf("of width %d, %d are told", width, many)
		}
	}
}

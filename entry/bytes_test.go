package entry_test

import (
	"bytes"
	"encoding/binary"
	"math"
	"math/rand"
	"slices"
	"testing"

	"waywarden/api"
	"waywarden/entry"
)

// asBytes are an entry's bytes, by the library's own means.
func asBytes(x api.Entry) []byte {
	b := binary.BigEndian.AppendUint16(nil, uint16(x.Family))
	b = binary.BigEndian.AppendUint16(b, uint16(x.Tag))
	for _, n := range []uint32{uint32(x.Addr), uint32(x.Mask), uint32(x.Next), x.Metric} {
		b = binary.BigEndian.AppendUint32(b, n)
	}
	return b
}

// asEntry is the entry whose bytes these are.
func asEntry(b []byte) api.Entry {
	word := func(at int) uint32 { return binary.BigEndian.Uint32(b[at:]) }
	return api.Entry{
		Family: int(binary.BigEndian.Uint16(b)),
		Tag:    int(binary.BigEndian.Uint16(b[2:])),
		Addr:   api.Addr(word(4)),
		Mask:   api.Addr(word(8)),
		Next:   api.Addr(word(12)),
		Metric: word(16),
	}
}

func drawn(n int) []byte {
	b := make([]byte, n)
	rand.New(rand.NewSource(int64(n))).Read(b)
	return b
}

// P4.1
func TestBytes(t *testing.T) {
	rows := []struct {
		x    api.Entry
		want string
		e    api.Errno
	}{
		{good(), "\x00\x02\x00\x00\x0a\x01\x00\x00\xff\xff\x00\x00\x00\x00\x00\x00\x00\x00\x00\x03", api.OK},
		{api.Entry{}, string(make([]byte, 20)), api.OK},
		{api.Entry{Family: 0x0102, Tag: 0x0304, Addr: 0x05060708, Mask: 0x090a0b0c, Next: 0x0d0e0f10, Metric: 0x11121314}, "\x01\x02\x03\x04\x05\x06\x07\x08\x09\x0a\x0b\x0c\x0d\x0e\x0f\x10\x11\x12\x13\x14", api.OK},
		// any entry has bytes whose Family and Tag may be, one that is not good too
		{api.Entry{Family: 65535, Tag: 65535, Addr: math.MaxUint32, Mask: math.MaxUint32, Next: math.MaxUint32, Metric: math.MaxUint32}, string(bytes.Repeat([]byte{0xff}, 20)), api.OK},
		{api.Entry{Family: 65536}, "", api.ErrArg},
		{api.Entry{Tag: 65536}, "", api.ErrArg},
		{api.Entry{Family: -1}, "", api.ErrArg},
		{api.Entry{Tag: -1}, "", api.ErrArg},
		{api.Entry{Family: 1 << 32}, "", api.ErrArg},
		{api.Entry{Tag: 1 << 32}, "", api.ErrArg},
		{api.Entry{Family: 2, Tag: math.MinInt, Metric: 1}, "", api.ErrArg},
		{api.Entry{Family: math.MaxInt, Tag: math.MaxInt}, "", api.ErrArg},
	}
	for _, r := range rows {
		if b, e := entry.Bytes(r.x); string(b) != r.want || e != r.e {
			t.Errorf("Bytes(%x) = % x, %d, want % x, %d", r.x, b, e, r.want, r.e)
		}
	}
}

// P4.1: each Family with each Tag, those that may not be among them.
func TestBytesOfEachFamilyAndTag(t *testing.T) {
	may := func(n int) bool { return n >= 0 && n <= 65535 }
	for _, family := range ints() {
		for _, tag := range ints() {
			x := good()
			x.Family, x.Tag = family, tag
			b, e := entry.Bytes(x)
			if !may(family) || !may(tag) {
				if b != nil || e != api.ErrArg {
					t.Errorf("Bytes(%x) = % x, %d", x, b, e)
				}
				continue
			}
			if !bytes.Equal(b, asBytes(x)) || e != api.OK {
				t.Errorf("Bytes(%x) = % x, %d", x, b, e)
			}
		}
	}
}

// P4.1: an answer is new memory.
func TestBytesAnswersNewBytes(t *testing.T) {
	one, _ := entry.Bytes(good())
	two, _ := entry.Bytes(good())
	clear(one)
	_ = append(one[:0], bytes.Repeat([]byte{9}, 30)...)
	if !bytes.Equal(two, asBytes(good())) {
		t.Errorf("two answers of Bytes share memory: % x", two)
	}
}

// P4.1: bytes of each length; what stands behind the first twenty is not read, nor what stands in spare room.
func TestRead(t *testing.T) {
	room := drawn(60)
	before := slices.Clone(room)
	for n := range len(room) + 1 {
		var want api.Entry
		wantE := api.ErrEnds
		if n >= 20 {
			want, wantE = asEntry(room), api.OK
		}
		if x, e := entry.Read(room[:n]); x != want || e != wantE {
			t.Errorf("Read of %d bytes = %x, %d, want %x, %d", n, x, e, want, wantE)
		}
	}
	if x, e := entry.Read(nil); x != (api.Entry{}) || e != api.ErrEnds {
		t.Errorf("Read(nil) = %x, %d", x, e)
	}
	if !bytes.Equal(room, before) {
		t.Errorf("Read left % x", room)
	}
}

// P4.1: each bit of the twenty bytes is one bit of one field.
func TestReadEachBit(t *testing.T) {
	for i := range 160 {
		b := make([]byte, 20)
		b[i/8] = 0x80 >> (i % 8)
		if x, e := entry.Read(b); x != asEntry(b) || x == (api.Entry{}) || e != api.OK {
			t.Errorf("Read(% x) = %x, %d", b, x, e)
		}
	}
}

// P4.4
func TestReadUndoesBytes(t *testing.T) {
	some := 0
	for _, x := range bent() {
		b, e := entry.Bytes(x)
		if e != api.OK {
			continue
		}
		some++
		if y, e := entry.Read(b); y != x || e != api.OK {
			t.Errorf("Read of Bytes(%x) = %x, %d", x, y, e)
		}
	}
	if some < 1000 {
		t.Errorf("just %d entries have bytes", some)
	}
}

// P4.4
func TestBytesUndoesRead(t *testing.T) {
	b := drawn(3000)
	for at := range len(b) - 20 {
		x, e := entry.Read(b[at:])
		if e != api.OK {
			t.Fatalf("Read at %d: %d", at, e)
		}
		if back, e := entry.Bytes(x); !bytes.Equal(back, b[at:at+20]) || e != api.OK {
			t.Errorf("Bytes of Read(% x) = % x, %d", b[at:at+20], back, e)
		}
	}
}

// told is one thing that Each tells.
type told struct {
	i int
	x api.Entry
}

// asTold is what Each is to tell.
func asTold(b []byte) []told {
	var l []told
	for len(b) >= 20 {
		l = append(l, told{len(l), asEntry(b)})
		b = b[20:]
	}
	return l
}

// P4.1: bytes of each length, with spare room behind, which is not told.
func TestEach(t *testing.T) {
	room := drawn(130)
	before := slices.Clone(room)
	for n := range len(room) + 1 {
		var l []told
		for i, x := range entry.Each(room[:n]) {
			l = append(l, told{i, x})
		}
		if len(l) != n/20 || !slices.Equal(l, asTold(room[:n])) {
			t.Errorf("Each of %d bytes tells %x", n, l)
		}
	}
	if !bytes.Equal(room, before) {
		t.Errorf("Each left % x", room)
	}
	if it := entry.Each(nil); it == nil {
		t.Error("Each(nil) is nil")
	}
	for i, x := range entry.Each(nil) {
		t.Errorf("Each(nil) tells %d, %x", i, x)
	}
}

// P4.1: of entries that are not good too, and of many.
func TestEachOfMany(t *testing.T) {
	b := drawn(20*3000 + 19)
	n := 0
	for i, x := range entry.Each(b) {
		if i != n || x != asEntry(b[20*i:]) {
			t.Fatalf("%d: it tells %d, %x", n, i, x)
		}
		n++
	}
	if n != 3000 {
		t.Errorf("it tells %d", n)
	}
}

// P4.1: it may be left at any time, and gone over again, from the beginning on.
func TestEachMayBeLeftAndGoneOverAgain(t *testing.T) {
	b := drawn(107)
	want := asTold(b)
	it := entry.Each(b)
	for n := range 3 * len(want) {
		stop := n%len(want) + 1
		var l []told
		it(func(i int, x api.Entry) bool {
			l = append(l, told{i, x})
			return len(l) < stop
		})
		if !slices.Equal(l, want[:stop]) {
			t.Errorf("left behind %d, it has told %x", stop, l)
		}
	}
	// one within the other
	for i, x := range it {
		for j, y := range it {
			if want[i].x != x || want[j].x != y {
				t.Errorf("%d: %x, %d: %x", i, x, j, y)
			}
		}
	}
}

// P4.1: what it goes over is as it was when Each was called.
func TestEachGoesOverItsOwnBytes(t *testing.T) {
	b := drawn(60)
	want := asTold(b)
	it := entry.Each(b)
	clear(b)
	var l []told
	for i, x := range it {
		l = append(l, told{i, x})
		clear(b)
	}
	if !slices.Equal(l, want) {
		t.Errorf("it tells %x, want %x", l, want)
	}
}

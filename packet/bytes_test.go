package packet_test

import (
	"bytes"
	"encoding/binary"
	"math"
	"math/rand"
	"slices"
	"testing"

	"waywarden/api"
	"waywarden/packet"
)

// ints are numbers near those that may be, far from them, and such as come round to them in 8, 16 or 32 bits.
func ints() []int {
	return []int{math.MinInt, math.MinInt + 1, math.MinInt + 2, -1 << 32, -1<<32 + 1, -1<<32 + 2, -65535, -255, -254, -2, -1, 0, 1, 2, 3, 4, 254, 255, 256, 257, 258, 259, 65534, 65535, 65536, 65537, 65538, 1<<31 - 1, 1 << 32, 1<<32 + 1, 1<<32 + 2, 1<<48 + 1, math.MaxInt - 1, math.MaxInt}
}

// entryOf is any entry that has bytes, a different one of each number.
func entryOf(n int) api.Entry {
	word := func(k int) uint32 { return uint32((6*n + k + 1) * 0x9e3779b1) }
	return api.Entry{Family: int(word(0) >> 16), Tag: int(word(1) >> 16), Addr: api.Addr(word(2)), Mask: api.Addr(word(3)), Next: api.Addr(word(4)), Metric: word(5)}
}

// entriesOf are so many of them.
func entriesOf(many int) []api.Entry {
	var l []api.Entry
	for n := range many {
		l = append(l, entryOf(n))
	}
	return l
}

// asBytes are the bytes of a command and entries, by the library's own means.
func asBytes(c api.Command, l []api.Entry) []byte {
	b := []byte{byte(c), 2, 0, 0}
	for _, x := range l {
		b = binary.BigEndian.AppendUint16(b, uint16(x.Family))
		b = binary.BigEndian.AppendUint16(b, uint16(x.Tag))
		for _, n := range []uint32{uint32(x.Addr), uint32(x.Mask), uint32(x.Next), x.Metric} {
			b = binary.BigEndian.AppendUint32(b, n)
		}
	}
	return b
}

// asError is what is wrong with bytes: the first row of the chapter's list.
func asError(b []byte) api.Errno {
	if len(b) < 4 {
		return 150
	}
	right := false
	for n := range 26 {
		right = right || len(b) == 4+20*n
	}
	switch {
	case !right:
		return 151
	case b[1] != 2:
		return 152
	case b[0] != 1 && b[0] != 2:
		return 153
	case b[2] != 0 || b[3] != 0:
		return 154
	}
	return 0
}

func isZero(d api.Datagram) bool {
	return d.Command == api.CommandNone && d.Entries == nil
}

// P5.1
func TestEncode(t *testing.T) {
	good := api.Entry{Family: 2, Addr: 0x0a010000, Mask: 0xffff0000, Metric: 3}
	rows := []struct {
		d    api.Datagram
		want string
		e    api.Errno
	}{
		{api.Datagram{Command: 1, Entries: []api.Entry{{Metric: 16}}}, "\x01\x02\x00\x00" + "\x00\x00\x00\x00" + "\x00\x00\x00\x00\x00\x00\x00\x00\x00\x00\x00\x00\x00\x00\x00\x10", api.OK},
		{api.Datagram{Command: 2, Entries: []api.Entry{good}}, "\x02\x02\x00\x00" + "\x00\x02\x00\x00\x0a\x01\x00\x00\xff\xff\x00\x00\x00\x00\x00\x00\x00\x00\x00\x03", api.OK},
		{api.Datagram{Command: 1}, "\x01\x02\x00\x00", api.OK},
		{api.Datagram{Command: 2}, "\x02\x02\x00\x00", api.OK},
		{api.Datagram{Command: 2, Entries: []api.Entry{}}, "\x02\x02\x00\x00", api.OK},
		{api.Datagram{}, "", api.ErrArg},
		{api.Datagram{Command: 0, Entries: []api.Entry{good}}, "", api.ErrArg},
		{api.Datagram{Command: 3}, "", api.ErrArg},
		{api.Datagram{Command: -1}, "", api.ErrArg},
		{api.Datagram{Command: 2, Entries: []api.Entry{{Family: -1}}}, "", api.ErrArg},
		{api.Datagram{Command: 2, Entries: []api.Entry{good, good, {Tag: 65536}}}, "", api.ErrArg},
		{api.Datagram{Command: 2, Entries: []api.Entry{{Family: 1<<32 + 2}, good}}, "", api.ErrArg},
	}
	for _, r := range rows {
		if b, e := packet.Encode(r.d); string(b) != r.want || e != r.e {
			t.Errorf("Encode(%x) = % x, %d, want % x, %d", r.d, b, e, r.want, r.e)
		}
	}
}

// P5.1: each Command, with as many entries as go, and one more; an error of the Command first, then that of how many.
func TestEncodeOfEachCommand(t *testing.T) {
	bad := api.Entry{Family: -1}
	for _, n := range ints() {
		c := api.Command(n)
		may := n == 1 || n == 2
		for _, many := range []int{0, 1, 24, 25, 26, 27, 50, 256, 300, 4096} {
			for _, spoilt := range []bool{false, true} {
				l := entriesOf(many)
				if spoilt {
					l = append(l[:max(many-1, 0)], bad)
				}
				want := api.OK
				switch {
				case !may:
					want = api.ErrArg
				case len(l) > 25:
					want = api.ErrLong
				case spoilt:
					want = api.ErrArg
				}
				b, e := packet.Encode(api.Datagram{Command: c, Entries: l})
				switch {
				case e != want:
					t.Errorf("Encode of %d, %d entries, spoilt %t: %d, want %d", n, len(l), spoilt, e, want)
				case e != api.OK && b != nil:
					t.Errorf("Encode of %d, %d entries: % x beside %d", n, len(l), b, e)
				case e == api.OK && !bytes.Equal(b, asBytes(c, l)):
					t.Errorf("Encode of %d, %d entries = % x", n, len(l), b)
				}
			}
		}
	}
}

// P5.1: an entry that has no bytes is found at each place.
func TestEncodeFindsEachBadEntry(t *testing.T) {
	for at := range 25 {
		for _, n := range ints() {
			if n >= 0 && n <= 65535 {
				continue
			}
			l := entriesOf(25)
			l[at].Family = n
			if b, e := packet.Encode(api.Datagram{Command: 2, Entries: l}); b != nil || e != api.ErrArg {
				t.Errorf("Family %d at %d: % x, %d", n, at, b, e)
			}
			l = entriesOf(25)
			l[at].Tag = n
			if b, e := packet.Encode(api.Datagram{Command: 1, Entries: l}); b != nil || e != api.ErrArg {
				t.Errorf("Tag %d at %d: % x, %d", n, at, b, e)
			}
		}
	}
}

// P5.1: what is handed in stays, spare room behind it too; an answer is new memory.
func TestEncodeLeavesItsArgument(t *testing.T) {
	room := entriesOf(10)
	d := api.Datagram{Command: 2, Entries: room[:6]}
	one, _ := packet.Encode(d)
	two, _ := packet.Encode(d)
	clear(one)
	_ = append(one[:0], bytes.Repeat([]byte{9}, 600)...)
	if !slices.Equal(room, entriesOf(10)) || len(d.Entries) != 6 {
		t.Error("Encode changed what it was handed")
	}
	if !bytes.Equal(two, asBytes(2, entriesOf(6))) {
		t.Errorf("two answers of Encode share memory: % x", two)
	}
}

// P5.1
func TestDecode(t *testing.T) {
	whole := string(make([]byte, 20))
	rows := []struct {
		b    string
		want api.Datagram
		e    api.Errno
	}{
		{"\x01\x02\x00\x00\x00\x00\x00\x00" + "\x00\x00\x00\x00\x00\x00\x00\x00\x00\x00\x00\x00\x00\x00\x00\x10", api.Datagram{Command: 1, Entries: []api.Entry{{Metric: 16}}}, api.OK},
		{"\x02\x02\x00\x00" + "\x00\x02\x00\x07\x0a\x01\x00\x00\xff\xff\x00\x00\x00\x00\x00\x05\x00\x00\x00\x03", api.Datagram{Command: 2, Entries: []api.Entry{{Family: 2, Tag: 7, Addr: 0x0a010000, Mask: 0xffff0000, Next: 5, Metric: 3}}}, api.OK},
		{"\x02\x02\x00\x00", api.Datagram{Command: 2}, api.OK},
		{"\x01\x02\x00\x00", api.Datagram{Command: 1}, api.OK},
		{"\x01\x02\x00\x00" + whole + whole, api.Datagram{Command: 1, Entries: make([]api.Entry, 2)}, api.OK},
		{"", api.Datagram{}, 150},
		{"\x01", api.Datagram{}, 150},
		{"\x01\x02\x00", api.Datagram{}, 150},
		{"\x03\x01\x01", api.Datagram{}, 150},
		{"\x01\x02\x00\x00\x05", api.Datagram{}, 151},
		{"\x03\x01\x01\x01\x05", api.Datagram{}, 151},
		{"\x01\x02\x00\x00" + whole + "\x00", api.Datagram{}, 151},
		{"\x01\x02\x00\x00" + whole[1:], api.Datagram{}, 151},
		{"\x01\x02\x00\x00" + string(make([]byte, 520)), api.Datagram{}, 151},
		{"\x01\x01\x00\x00", api.Datagram{}, 152},
		{"\x00\x03\x01\x00", api.Datagram{}, 152},
		{"\x02\x01\x00\x00" + whole, api.Datagram{}, 152},
		{"\x03\x02\x00\x00", api.Datagram{}, 153},
		{"\x00\x02\x00\x01", api.Datagram{}, 153},
		{"\xff\x02\x00\x00" + whole, api.Datagram{}, 153},
		{"\x01\x02\x00\x01", api.Datagram{}, 154},
		{"\x01\x02\x01\x00", api.Datagram{}, 154},
		{"\x02\x02\x80\x80" + whole, api.Datagram{}, 154},
	}
	for _, r := range rows {
		d, e := packet.Decode([]byte(r.b))
		if d.Command != r.want.Command || !slices.Equal(d.Entries, r.want.Entries) || e != r.e {
			t.Errorf("Decode(% x) = %x, %d, want %x, %d", r.b, d, e, r.want, r.e)
		}
		if e := packet.Check([]byte(r.b)); e != r.e {
			t.Errorf("Check(% x) = %d, want %d", r.b, e, r.e)
		}
	}
	if d, e := packet.Decode(nil); !isZero(d) || e != api.ErrHead {
		t.Errorf("Decode(nil) = %x, %d", d, e)
	}
}

// P5.1: heads of each value of each byte, some two at a time, with bytes of each length behind; the first error is told.
func TestDecodeOfEachHeadAndLength(t *testing.T) {
	check := func(b []byte) {
		t.Helper()
		want := asError(b)
		d, e := packet.Decode(b)
		if e != want || packet.Check(b) != want {
			t.Errorf("%d bytes, head % x: Decode %d, Check %d, want %d", len(b), b[:min(4, len(b))], e, packet.Check(b), want)
		}
		if want != api.OK && !isZero(d) {
			t.Errorf("%d bytes: %x beside %d", len(b), d, e)
		}
		if want == api.OK && !bytes.Equal(asBytes(d.Command, d.Entries), b) {
			t.Errorf("Decode(% x) = %x", b, d)
		}
	}
	room := asBytes(1, entriesOf(60))
	for n := range len(room) + 1 {
		for _, head := range []string{"\x01\x02\x00\x00", "\x02\x02\x00\x00", "\x01\x01\x00\x00", "\x03\x02\x00\x00", "\x01\x02\x01\x00", "\x01\x02\x00\x01", "\x05\x05\x05\x05"} {
			b := slices.Clone(room[:n])
			copy(b, head)
			check(b)
		}
	}
	for at := range 4 {
		for v := range 256 {
			for other := range 4 {
				for _, w := range []byte{0, 1, 2, 3, 255} {
					for _, many := range []int{0, 1} {
						b := asBytes(2, entriesOf(many))
						b[other] = w
						b[at] = byte(v)
						check(b)
					}
				}
			}
		}
	}
}

// P5.1: bytes that stand in spare room are none of the datagram's, and stay as they are.
func TestDecodeLeavesItsArgument(t *testing.T) {
	room := asBytes(2, entriesOf(25))
	before := slices.Clone(room)
	for n := range len(room) + 1 {
		d, e := packet.Decode(room[:n])
		if e != asError(before[:n]) || e == api.OK && len(d.Entries) != n/20 {
			t.Errorf("Decode of %d bytes: %d entries, %d", n, len(d.Entries), e)
		}
	}
	one, _ := packet.Decode(room)
	two, _ := packet.Decode(room)
	clear(one.Entries)
	_ = append(one.Entries[:0], make([]api.Entry, 40)...)
	clear(room[4:])
	if !slices.Equal(two.Entries, entriesOf(25)) {
		t.Error("an answer of Decode shares memory")
	}
	clear(two.Entries)
	if !bytes.Equal(room[:4], before[:4]) || !bytes.Equal(room[4:], make([]byte, 500)) {
		t.Errorf("Decode's answer shares memory with its bytes")
	}
}

// P5.4: Decode of Encode is the datagram, and how many bytes it has.
func TestDecodeUndoesEncode(t *testing.T) {
	for many := range 26 {
		for _, c := range []api.Command{1, 2} {
			want := api.Datagram{Command: c, Entries: entriesOf(many)}
			b, e := packet.Encode(want)
			if len(b) != 4+20*many || len(b) > 504 || e != api.OK {
				t.Errorf("%d entries: %d bytes, %d", many, len(b), e)
			}
			if d, e := packet.Decode(b); d.Command != c || !slices.Equal(d.Entries, want.Entries) || e != api.OK {
				t.Errorf("Decode of Encode(%x) = %x, %d", want, d, e)
			}
		}
	}
}

// P5.4: Encode of Decode is the bytes.
func TestEncodeUndoesDecode(t *testing.T) {
	r := rand.New(rand.NewSource(5))
	for range 2000 {
		b := make([]byte, 4+20*r.Intn(26))
		r.Read(b)
		copy(b, []byte{byte(1 + r.Intn(2)), 2, 0, 0})
		d, e := packet.Decode(b)
		if e != api.OK {
			t.Fatalf("Decode(% x): %d", b, e)
		}
		if back, e := packet.Encode(d); !bytes.Equal(back, b) || e != api.OK {
			t.Errorf("Encode of Decode(% x) = % x, %d", b, back, e)
		}
	}
}

// told is one thing that Each tells.
type told struct {
	i int
	x api.Entry
}

// asTold is what Each is to tell of bytes.
func asTold(b []byte) []told {
	var l []told
	if asError(b) != api.OK {
		return nil
	}
	for i := 0; 4+20*i < len(b); i++ {
		at := b[4+20*i:]
		word := func(n int) uint32 { return binary.BigEndian.Uint32(at[n:]) }
		l = append(l, told{i, api.Entry{
			Family: int(binary.BigEndian.Uint16(at)),
			Tag:    int(binary.BigEndian.Uint16(at[2:])),
			Addr:   api.Addr(word(4)),
			Mask:   api.Addr(word(8)),
			Next:   api.Addr(word(12)),
			Metric: word(16),
		}})
	}
	return l
}

func gather(b []byte) []told {
	var l []told
	for i, x := range packet.Each(b) {
		l = append(l, told{i, x})
	}
	return l
}

// P5.3: bytes of each length, with spare room behind, and of many heads.
func TestEach(t *testing.T) {
	room := asBytes(2, entriesOf(40))
	before := slices.Clone(room)
	for n := range len(room) + 1 {
		if l := gather(room[:n]); !slices.Equal(l, asTold(room[:n])) {
			t.Errorf("Each of %d bytes tells %x", n, l)
		}
	}
	if !bytes.Equal(room, before) {
		t.Error("Each changed what it was handed")
	}
	for at := range 4 {
		for v := range 256 {
			b := asBytes(1, entriesOf(3))
			b[at] = byte(v)
			if l := gather(b); !slices.Equal(l, asTold(b)) {
				t.Errorf("Each of the head % x tells %x", b[:4], l)
			}
		}
	}
	if len(gather(asBytes(2, entriesOf(25)))) != 25 {
		t.Error("Each tells not all of 25")
	}
}

// P5.3: of none's bytes it is there, and tells nothing.
func TestEachOfNone(t *testing.T) {
	for _, b := range []string{"", "\x01", "\x01\x02\x00", "\x01\x02\x00\x00", "\x02\x02\x00\x00\x00"} {
		it := packet.Each([]byte(b))
		if it == nil {
			t.Fatalf("Each(% x) is nil", b)
		}
		for range 2 {
			for i, x := range it {
				t.Errorf("Each(% x) tells %d, %x", b, i, x)
			}
		}
	}
	if packet.Each(nil) == nil || len(gather(nil)) != 0 {
		t.Error("Each(nil)")
	}
}

// P5.3: it may be left at any time, and gone over again, from the beginning on.
func TestEachMayBeLeftAndGoneOverAgain(t *testing.T) {
	b := asBytes(1, entriesOf(7))
	want := asTold(b)
	it := packet.Each(b)
	for n := range 3 * len(want) {
		stop := n%len(want) + 1
		var l []told
		it(func(i int, x api.Entry) bool {
			l = append(l, told{i, x})
			return len(l) < stop
		})
		if !slices.Equal(l, want[:stop]) {
			t.Errorf("left behind %d, it has told %x", stop, l)
		}
	}
	// one within the other
	pairs := 0
	for i, x := range it {
		for j, y := range it {
			if want[i].x != x || want[j].x != y {
				t.Errorf("%d: %x, %d: %x", i, x, j, y)
			}
			pairs++
		}
	}
	if pairs != len(want)*len(want) {
		t.Errorf("one within the other tells %d", pairs)
	}
}

// P5.3: what it goes over is as it was when Each was called.
func TestEachGoesOverItsOwnBytes(t *testing.T) {
	b := asBytes(2, entriesOf(5))
	want := asTold(b)
	good := packet.Each(b)
	b[0] = 3
	bad := packet.Each(b)
	clear(b)
	copy(b, "\x01\x02")
	var l []told
	for i, x := range good {
		l = append(l, told{i, x})
		clear(b)
	}
	if !slices.Equal(l, want) {
		t.Errorf("it tells %x, want %x", l, want)
	}
	for i, x := range bad {
		t.Errorf("of bytes that were none's it tells %d, %x", i, x)
	}
}

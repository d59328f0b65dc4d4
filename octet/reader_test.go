package octet_test

import (
	"bytes"
	"math"
	"math/rand"
	"slices"
	"testing"

	"waywarden/api"
	"waywarden/octet"
)

// stands holds where a reader stands against its bytes and its place.
func stands(t *testing.T, r *octet.Reader, b []byte, at int) {
	t.Helper()
	if r.At() != at || r.Left() != len(b)-at || !bytes.Equal(r.Rest(), b[at:]) {
		t.Errorf("it stands at %d, with %d left, % x, want %d, %d, % x", r.At(), r.Left(), r.Rest(), at, len(b)-at, b[at:])
	}
}

// P3.3, P3.4: the chapter's example, step by step.
func TestReader(t *testing.T) {
	b := []byte{0, 1, 2}
	r := octet.New(b...)
	stands(t, r, b, 0)
	if n, e := r.Take(2); n != 1 || e != api.OK {
		t.Errorf("Take(2) = %d, %d", n, e)
	}
	stands(t, r, b, 2)
	if n, e := r.Take(2); n != 0 || e != api.ErrEnds {
		t.Errorf("Take(2) = %d, %d", n, e)
	}
	stands(t, r, b, 2)
	if n, e := r.Take(1); n != 2 || e != api.OK {
		t.Errorf("Take(1) = %d, %d", n, e)
	}
	stands(t, r, b, 3)
	if n, e := r.Take(1); n != 0 || e != api.ErrEnds {
		t.Errorf("Take(1) = %d, %d", n, e)
	}
	stands(t, r, b, 3)
}

// P3.3, P3.4
func TestReaderOfNoBytes(t *testing.T) {
	for _, r := range []*octet.Reader{octet.New(), octet.New(nil...), octet.New([]byte{}...), octet.New([]byte{1, 2, 3}[:0]...)} {
		if r == nil {
			t.Fatal("New of no bytes is nil")
		}
		stands(t, r, nil, 0)
		for _, width := range []int{1, 2, 4} {
			if n, e := r.Take(width); n != 0 || e != api.ErrEnds {
				t.Errorf("Take(%d) = %d, %d", width, n, e)
			}
		}
		if n, e := r.Take(3); n != 0 || e != api.ErrArg {
			t.Errorf("Take(3) = %d, %d", n, e)
		}
		if e := r.Skip(0); e != api.OK {
			t.Errorf("Skip(0): %d", e)
		}
		if e := r.Skip(1); e != api.ErrEnds {
			t.Errorf("Skip(1): %d", e)
		}
		if e := r.Skip(-1); e != api.ErrRange {
			t.Errorf("Skip(-1): %d", e)
		}
		stands(t, r, nil, 0)
	}
}

// P3.3, P3.4: a nil reader, and one that New did not make, ahead of all other errors.
func TestNoReader(t *testing.T) {
	for name, r := range map[string]*octet.Reader{"nil": nil, "zero": {}, "new": new(octet.Reader)} {
		for _, many := range ints() {
			if n, e := r.Take(many); n != 0 || e != api.ErrNil {
				t.Errorf("of a %s reader, Take(%d) = %d, %d", name, many, n, e)
			}
			if e := r.Skip(many); e != api.ErrNil {
				t.Errorf("of a %s reader, Skip(%d): %d", name, many, e)
			}
		}
		if r.At() != 0 || r.Left() != 0 || len(r.Rest()) != 0 {
			t.Errorf("a %s reader stands at %d, with %d left, % x", name, r.At(), r.Left(), r.Rest())
		}
	}
}

// P3.3
func TestTakeOfEachWidth(t *testing.T) {
	b := []byte{0xfe, 0xdc, 0xba, 0x98, 0x76, 0x54, 0x32}
	for at := range len(b) + 1 {
		for _, width := range ints() {
			r := octet.New(b...)
			if e := r.Skip(at); e != api.OK {
				t.Fatalf("Skip(%d): %d", at, e)
			}
			n, e := r.Take(width)
			switch {
			case !isWidth(width):
				if n != 0 || e != api.ErrArg {
					t.Errorf("at %d, Take(%d) = %d, %d, want %d", at, width, n, e, api.ErrArg)
				}
				stands(t, r, b, at)
			case at+width > len(b):
				if n != 0 || e != api.ErrEnds {
					t.Errorf("at %d, Take(%d) = %d, %d, want %d", at, width, n, e, api.ErrEnds)
				}
				stands(t, r, b, at)
			default:
				if want := asNumber(b[at:], width); n != want || e != api.OK {
					t.Errorf("at %d, Take(%d) = %d, %d, want %d", at, width, n, e, want)
				}
				stands(t, r, b, at+width)
			}
		}
	}
}

// P3.3
func TestSkipOfEachCount(t *testing.T) {
	b := []byte{1, 2, 3, 4, 5}
	for at := range len(b) + 1 {
		for _, many := range ints() {
			r := octet.New(b...)
			r.Skip(at)
			want, to := api.OK, at
			switch {
			case many < 0:
				want = api.ErrRange
			case many > len(b)-at:
				want = api.ErrEnds
			default:
				to = at + many
			}
			if e := r.Skip(many); e != want {
				t.Errorf("at %d, Skip(%d): %d, want %d", at, many, e, want)
			}
			stands(t, r, b, to)
		}
	}
}

// P3.3: the place is behind what was taken, or skipped, whatever that was; what is refused changes nothing.
func TestReaderStepByStep(t *testing.T) {
	draw := rand.New(rand.NewSource(3))
	for range 500 {
		b := make([]byte, draw.Intn(30))
		draw.Read(b)
		r, at := octet.New(b...), 0
		for range 30 {
			many := draw.Intn(8) - 1
			if draw.Intn(2) == 0 {
				n, e := r.Take(many)
				want, wantE := octet.Read(b, at, many)
				if n != want || e != wantE {
					t.Fatalf("at %d of % x, Take(%d) = %d, %d, want %d, %d", at, b, many, n, e, want, wantE)
				}
				if e == api.OK {
					at += many
				}
			} else if e := r.Skip(many); e == api.OK {
				at += many
			}
			stands(t, r, b, at)
		}
	}
}

// P3.3: the numbers that are taken are those that Each tells.
func TestTakeTellsWhatEachTells(t *testing.T) {
	b := []byte("\x00\x01\x02\x03\xfc\xfd\xfe\xff\x80\x7f\x55")
	for _, width := range []int{1, 2, 4} {
		r := octet.New(b...)
		for at, n := range octet.Each(b, width) {
			if r.At() != at {
				t.Errorf("it stands at %d, want %d", r.At(), at)
			}
			if m, e := r.Take(width); m != n || e != api.OK {
				t.Errorf("at %d, Take(%d) = %d, %d, want %d", at, width, m, e, n)
			}
		}
		if n, e := r.Take(width); n != 0 || e != api.ErrEnds {
			t.Errorf("at the end, Take(%d) = %d, %d", width, n, e)
		}
	}
}

// P3.3: a reader has its own copy of the bytes.
func TestReaderHasItsOwnBytes(t *testing.T) {
	room := []byte{1, 2, 3, 4, 5, 6}
	before := slices.Clone(room)
	r := octet.New(room[:4]...)
	r.Take(2)
	r.Skip(1)
	r.Rest()
	if !bytes.Equal(room, before) {
		t.Errorf("the reader left % x", room)
	}
	clear(room)
	stands(t, r, before[:4], 3)
	if n, e := r.Take(1); n != 4 || e != api.OK {
		t.Errorf("Take(1) = %d, %d, want 4", n, e)
	}
	if n, e := r.Take(1); n != 0 || e != api.ErrEnds {
		t.Errorf("in spare room, Take(1) = %d, %d", n, e)
	}
}

// P3.4: Rest is new memory.
func TestRestIsNewMemory(t *testing.T) {
	b := []byte{1, 2, 3, 4}
	r := octet.New(b...)
	r.Skip(1)
	one, two := r.Rest(), r.Rest()
	clear(one)
	_ = append(one[:0], 9, 9, 9, 9, 9)
	if !bytes.Equal(two, b[1:]) {
		t.Errorf("two answers of Rest share memory: % x", two)
	}
	stands(t, r, b, 1)
	if n, e := r.Take(2); n != 515 || e != api.OK {
		t.Errorf("Take(2) = %d, %d, want 515", n, e)
	}
	if !bytes.Equal(two, b[1:]) {
		t.Errorf("Take changed an answer of Rest: % x", two)
	}
}

// P3.3: readers of the same bytes do not hinder each other, one that was copied neither.
func TestReadersStandAlone(t *testing.T) {
	b := []byte{1, 2, 3, 4}
	one, two := octet.New(b...), octet.New(b...)
	one.Take(1)
	three := *one
	one.Take(2)
	stands(t, one, b, 3)
	stands(t, two, b, 0)
	stands(t, &three, b, 1)
	if n, e := three.Take(2); n != 515 || e != api.OK {
		t.Errorf("Take(2) = %d, %d, want 515", n, e)
	}
	stands(t, one, b, 3)
}

// P3.3: huge counts, at the end too, do not come round.
func TestSkipDoesNotComeRound(t *testing.T) {
	b := make([]byte, 300)
	r := octet.New(b...)
	r.Skip(299)
	for _, many := range []int{math.MaxInt, math.MaxInt - 298, math.MaxInt - 299, math.MaxInt - 300, 1<<32 - 299, 1 << 32, 1<<32 + 1, 2} {
		if e := r.Skip(many); e != api.ErrEnds {
			t.Errorf("Skip(%d): %d, want %d", many, e, api.ErrEnds)
		}
		stands(t, r, b, 299)
	}
	if e := r.Skip(1); e != api.OK {
		t.Errorf("Skip(1): %d", e)
	}
	stands(t, r, b, 300)
}

// P3.3
func TestReaderOfManyBytes(t *testing.T) {
	b := make([]byte, 1<<20)
	for i := range b {
		b[i] = byte(i * 13)
	}
	r := octet.New(b...)
	for at := 0; at < len(b); at += 4 {
		if n, e := r.Take(4); n != asNumber(b[at:], 4) || e != api.OK {
			t.Fatalf("at %d, Take(4) = %d, %d", at, n, e)
		}
	}
	stands(t, r, b, len(b))
}

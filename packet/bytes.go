package packet

import (
	"iter"
	"slices"

	"waywarden/api"
	"waywarden/entry"
	"waywarden/octet"
)

// The version, how many bytes the head and an entry have, and where things stand in the head.
const (
	version   = 2
	head      = 4
	whole     = 20
	commandAt = 0
	versionAt = 1
	zeroAt    = 2
)

// Encode: P5.1.
func Encode(d api.Datagram) (b []byte, e api.Errno) {
	defer func() { e = caught(recover()) }()
	mayGo(d.Command, together, d.Entries)
	own := []byte{byte(d.Command), version, 0, 0}
	for _, x := range d.Entries {
		piece, _ := entry.Bytes(x)
		own = append(own, piece...)
	}
	return own, api.OK
}

// Decode: P5.1.
func Decode(b []byte) (d api.Datagram, e api.Errno) {
	defer func() { e = caught(recover()) }()
	return reader{b}.datagram(), api.OK
}

// Check: P5.1.
func Check(b []byte) api.Errno {
	_, e := Decode(b)
	return e
}

// Each: P5.3.
func Each(b []byte) iter.Seq2[int, api.Entry] {
	// Its own copy: what becomes of b behind this call is not told.
	own := reader{slices.Clone(b)}
	none := Check(b) != api.OK
	return func(yield func(int, api.Entry) bool) {
	entries:
		for i, x := range entry.Each(own.behindHead()) {
			switch {
			case none:
				break entries
			case !yield(i, x):
				break entries
			}
		}
	}
}

// must is what bytes must be, and the error of those that are not so.
type must struct {
	isSo func(reader) bool
	e    api.Errno
}

// musts has them in the order in which they are asked for: each one leans on those ahead.
func musts() []must {
	return []must{
		{func(r reader) bool { return len(r.octets) >= head }, api.ErrHead},
		{func(r reader) bool { return isWhole(len(r.behindHead())) }, api.ErrSize},
		{func(r reader) bool { return r.number(versionAt, 1) == version }, api.ErrVersion},
		{func(r reader) bool { return isCommand(r.command()) }, api.ErrCommand},
		{func(r reader) bool { return r.number(zeroAt, 2) == 0 }, api.ErrZero},
	}
}

// isWhole is whether so many bytes are those of whole entries, and of not too many.
func isWhole(many int) bool {
	return many%whole == 0 && many/whole <= api.MaxEntries
}

// reader reads a datagram from its bytes.
type reader struct {
	octets
}

func (r reader) datagram() api.Datagram {
	for _, m := range musts() {
		if !m.isSo(r) {
			panic(m.e)
		}
	}
	d := api.Datagram{Command: r.command()}
	for _, x := range entry.Each(r.behindHead()) {
		d.Entries = append(d.Entries, x)
	}
	return d
}

func (r reader) command() api.Command {
	return api.Command(r.number(commandAt, 1))
}

// octets are bytes. They are never written to.
type octets []byte

// number is a number that stands in the head.
func (o octets) number(at, width int) uint32 {
	n, _ := octet.Read(o, at, width)
	return n
}

// behindHead is what follows the head.
func (o octets) behindHead() octets {
	return o[min(head, len(o)):]
}

package entry

import (
	"iter"
	"slices"

	"waywarden/api"
	"waywarden/octet"
)

// The widths of an entry's fields, and of all of them.
const (
	short = 2
	long  = 4
	whole = 2*short + 4*long
)

// Bytes: P4.1.
func Bytes(e api.Entry) ([]byte, api.Errno) {
	if !isShort(e.Family) || !isShort(e.Tag) {
		return nil, api.ErrArg
	}
	return join(
		put(uint32(e.Family), short), put(uint32(e.Tag), short),
		put(uint32(e.Addr), long), put(uint32(e.Mask), long), put(uint32(e.Next), long),
		put(e.Metric, long),
	), api.OK
}

// isShort is asked ahead of a number's 32 bits: a huge one comes round to a good one there.
func isShort(n int) bool {
	return n >= 0 && n < 1<<(8*short)
}

// put is a number's bytes, of one that the width holds.
func put(n uint32, width int) []byte {
	b, _ := octet.Put(n, width)
	return b
}

// join is one list behind the other.
func join[D any](lists ...[]D) []D {
	var all []D
	for _, l := range lists {
		all = append(all, l...)
	}
	return all
}

// Read: P4.1.
func Read(b []byte) (x api.Entry, e api.Errno) {
	defer func() { e = caught(recover()) }()
	// What stands behind the twenty is none of the entry's.
	r := reader{octet.New(b[:min(whole, len(b))]...)}
	return r.entry(), api.OK
}

// caught is the error that a reader gave up with. Any other panic is a fault of this package, and goes on.
func caught(thing any) api.Errno {
	e, gaveUp := thing.(api.Errno)
	if thing != nil && !gaveUp {
		panic(thing)
	}
	return e
}

// reader reads entries from its bytes.
type reader struct {
	*octet.Reader
}

func (r reader) entry() api.Entry {
	number := func(width int) uint32 {
		n, e := r.Take(width)
		if e != api.OK {
			panic(e)
		}
		return n
	}
	var x api.Entry
	x.Family = int(number(short))
	x.Tag = int(number(short))
	x.Addr = api.Addr(number(long))
	x.Mask = api.Addr(number(long))
	x.Next = api.Addr(number(long))
	x.Metric = number(long)
	return x
}

// Each: P4.1.
func Each(b []byte) iter.Seq2[int, api.Entry] {
	// Its own copy: what becomes of b behind this call is not told.
	own := slices.Clone(b)
	return func(yield func(int, api.Entry) bool) {
	entries:
		for i, piece := range pieces(own) {
			switch x, e := Read(piece); {
			case e != api.OK:
				break entries
			case !yield(i, x):
				break entries
			}
		}
	}
}

// pieces goes over bytes, as many each as an entry has, the last piece with what is left, each with its number.
func pieces(b []byte) iter.Seq2[int, []byte] {
	return func(yield func(int, []byte) bool) {
		for i := 0; i*whole < len(b); i++ {
			if !yield(i, b[i*whole:min((i+1)*whole, len(b))]) {
				return
			}
		}
	}
}

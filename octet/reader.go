package octet

import "waywarden/api"

// Reader: see the chapter.
type Reader struct {
	octets
	at int
}

// New: P3.3.
func New(b ...byte) *Reader {
	// The bytes are not nil even where there are none: by that it is told from a zero reader.
	return &Reader{octets: append(octets{}, b...)}
}

// none is whether there is no reader: a nil one, or one that New did not make.
func (r *Reader) none() bool {
	return r == nil || r.octets == nil
}

// Take: P3.3.
func (r *Reader) Take(width int) (n uint32, e api.Errno) {
	if r.none() {
		e = api.ErrNil
		goto refused
	}
	if n, e = r.read(r.at, width); e != api.OK {
		goto refused
	}
	r.at += width
	return n, api.OK
refused:
	return 0, e
}

// Skip: P3.3.
func (r *Reader) Skip(many int) (e api.Errno) {
	if r.none() {
		e = api.ErrNil
		goto refused
	}
	if _, e = r.cut(r.at, many); e != api.OK {
		goto refused
	}
	r.at += many
	return api.OK
refused:
	return e
}

// At: P3.4.
func (r *Reader) At() int {
	if r.none() {
		return 0
	}
	return r.at
}

// Left: P3.4.
func (r *Reader) Left() int {
	if r.none() {
		return 0
	}
	return len(r.octets) - r.at
}

// Rest: P3.4.
func (r *Reader) Rest() []byte {
	if r.none() {
		return nil
	}
	rest, _ := r.cut(r.at, r.Left())
	return append([]byte(nil), rest...)
}

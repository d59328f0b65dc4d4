package addr

import (
	"strconv"
	"strings"

	"waywarden/api"
)

// Text: P1.2.
func Text(a api.Addr) string {
	var texts [4]string
	for i, p := range Parts(a) {
		texts[i] = strconv.Itoa(int(p))
	}
	return strings.Join(texts[:], ".")
}

// Parse: P1.2.
func Parse(s string) (a api.Addr, at int, e api.Errno) {
	defer func() {
		if x := recover(); x != nil {
			// Any panic but a reader's own is a fault of this package: the assertion lets it go on.
			at, e = int(x.(wrong)), api.ErrText
		}
	}()
	var r reader
	for i, c := range s {
		r.at = i
		r.take(c)
	}
	r.at = len(s)
	r.end()
	return Of(r.parts[0], r.parts[1], r.parts[2], r.parts[3]), len(s), api.OK
}

// wrong is what a reader gives up with: the place where a text is wrong.
type wrong int

// read is what stands of an address so far.
type read struct {
	parts  [4]byte
	whole  int // how many parts are behind
	part   int // the part under way
	digits int // how many digits that one has
}

// reader reads a text; at is the place that it looks at.
type reader struct {
	read
	at int
}

func (r *reader) take(c rune) {
	switch {
	case c >= '0' && c <= '9':
		r.digit(int(c - '0'))
	case c == '.':
		r.dot()
	default:
		r.giveUp()
	}
}

func (r *reader) digit(d int) {
	part := together(10, r.part, d)
	if r.digits > 0 && r.part == 0 || part > 255 {
		r.giveUp()
	}
	r.part = part
	r.digits++
}

func (r *reader) dot() {
	if r.whole == len(r.parts)-1 {
		r.giveUp()
	}
	r.keep()
}

func (r *reader) end() {
	if r.whole < len(r.parts)-1 {
		r.giveUp()
	}
	r.keep()
}

// keep lays the part under way to those behind.
func (r *reader) keep() {
	if r.digits == 0 {
		r.giveUp()
	}
	r.parts[r.whole] = byte(r.part)
	r.whole++
	r.part, r.digits = 0, 0
}

func (r *reader) giveUp() {
	panic(wrong(r.at))
}

package prefix

import (
	"strconv"

	"waywarden/addr"
	"waywarden/api"
)

// Text: P2.3.
func Text(p api.Prefix) (string, api.Errno) {
	if e := Check(p); e != api.OK {
		return "", e
	}
	return addr.Text(p.Addr) + "/" + strconv.Itoa(p.Len), api.OK
}

// Parse: P2.3.
func Parse(s string) (api.Prefix, api.Errno) {
	var r reader
	for i, c := range s {
		if !r.take(s[:i], c) {
			goto refused
		}
	}
	if r.digits == 0 || Check(r.Prefix) != api.OK {
		goto refused
	}
	return r.Prefix, api.OK
refused:
	return api.Prefix{}, api.ErrPrefix
}

// reader is the prefix under way that a text tells, as far as it is read.
type reader struct {
	api.Prefix
	slash  bool // the / is behind
	digits int  // how many digits Len has
}

// take is whether c may stand behind what stands ahead of it.
func (r *reader) take(ahead string, c rune) bool {
	switch {
	case r.slash:
		return r.digit(c)
	case c == '/':
		return r.address(ahead)
	}
	// The address's text is asked as a whole, where the / is found.
	return true
}

func (r *reader) address(s string) bool {
	a, _, e := addr.Parse(s)
	r.Addr, r.slash = a, true
	return e == api.OK
}

func (r *reader) digit(c rune) bool {
	if c < '0' || c > '9' || r.digits > 0 && r.Len == 0 {
		return false
	}
	r.Len = r.Len*10 + int(c-'0')
	r.digits++
	return r.Len <= most
}

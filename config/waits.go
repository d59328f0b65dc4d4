package config

import "waywarden/api"

// rounds is how many times all spans together the bound is.
const rounds = 32

// Wait: P8.2.
func Wait(c api.Config, draw int64) (wait int64, e api.Errno) {
	defer func() { e = caught(recover()) }()
	l := look{c}
	l.mayBe(whole)
	return l.Period + clamped(draw, [2]int64{0, l.Jitter}), api.OK
}

// Quiet: P8.2.
func Quiet(c api.Config, draw int64) (wait int64, e api.Errno) {
	defer func() { e = caught(recover()) }()
	l := look{c}
	l.mayBe(whole)
	return l.Quiet + clamped(draw, [2]int64{0, l.Spread}), api.OK
}

// Bound: P8.2.
func Bound(c api.Config, delay int64) (bound int64, e api.Errno) {
	defer func() { e = caught(recover()) }()
	l := look{c}
	l.mayBe(whole)
	must(isWithin(delay, from(0)), api.ErrArg)
	// What tells of a route anew comes this late, at most: ahead of that the route may not be lost.
	late := l.Period + l.Jitter + delay
	must(late < l.Timeout, api.ErrSettle)
	return rounds * (l.Timeout + l.Hold + l.Garbage + late), api.OK
}

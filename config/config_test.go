package config_test

import (
	"fmt"
	"math"
	"math/rand"
	"reflect"
	"slices"
	"testing"

	"waywarden/api"
	"waywarden/config"
)

// net is a prefix that may be told, another one for each number.
func net(n int) api.Prefix {
	return api.Prefix{Addr: 0x0a000000 + api.Addr(n)<<8, Len: 24}
}

// nets are so many of them.
func nets(many int) []api.Prefix {
	var l []api.Prefix
	for n := range many {
		l = append(l, net(n))
	}
	return l
}

// plain is a configuration that may be, of which no two numbers are the same.
func plain() api.Config {
	return api.Config{
		Period: 10, Jitter: 4, Timeout: 60, Hold: 40, Garbage: 30, Quiet: 2, Spread: 1,
		Cap: 20, Own: []api.Prefix{net(3), net(1), net(2)},
	}
}

// field is one of the spans, as the document tells them.
type field struct {
	name  string
	least int64
	of    func(*api.Config) *int64
}

func fields() []field {
	return []field{
		{"period", 1, func(c *api.Config) *int64 { return &c.Period }},
		{"jitter", 0, func(c *api.Config) *int64 { return &c.Jitter }},
		{"timeout", 1, func(c *api.Config) *int64 { return &c.Timeout }},
		{"hold", 0, func(c *api.Config) *int64 { return &c.Hold }},
		{"garbage", 1, func(c *api.Config) *int64 { return &c.Garbage }},
		{"quiet", 0, func(c *api.Config) *int64 { return &c.Quiet }},
		{"spread", 0, func(c *api.Config) *int64 { return &c.Spread }},
	}
}

// numbers are the ends of what a span, a Cap, a draw may be, and what comes round to a good one in fewer bits.
func numbers() []int64 {
	return []int64{
		math.MinInt64, math.MinInt64 + 1, -1<<32 + 1, -1 << 32, -1000000, -256, -2, -1,
		0, 1, 2, 3, 9, 10, 15, 16, 17, 255, 256, 257, 999999, 1000000, 1000001, 2000000,
		1 << 31, 1 << 32, 1<<32 + 1, 1<<32 + 100, 1 << 62, math.MaxInt64 - 1, math.MaxInt64,
	}
}

// mayBeTold is whether a prefix may be told, written apart from the program.
func mayBeTold(p api.Prefix) bool {
	if p.Len < 0 || p.Len > 32 || uint64(p.Addr)%(1<<(32-p.Len)) != 0 {
		return false
	}
	if p.Addr == 0 {
		return p.Len == 0
	}
	first := p.Addr >> 24
	return first != 0 && first != 127 && first < 224
}

// may is whether a configuration may be, written apart from the program.
func may(c api.Config) bool {
	for _, f := range fields() {
		if n := *f.of(&c); n < f.least || n > 1000000 {
			return false
		}
	}
	if c.Cap < 1 || c.Cap > 256 || len(c.Own) > 16 || len(c.Own) > c.Cap {
		return false
	}
	seen := map[api.Prefix]bool{}
	for _, p := range c.Own {
		if !mayBeTold(p) || seen[p] {
			return false
		}
		seen[p] = true
	}
	return true
}

// wrongOwns are prefixes that may not be Own together, however many there may be.
func wrongOwns() [][]api.Prefix {
	l := [][]api.Prefix{
		{net(1), net(1)},
		{net(1), net(2), net(1)},
		{net(2), net(1), net(1)},
		{{}, {}},
		{net(1), {Addr: 0x0a000001, Len: 8}},
		nets(17),
		nets(257),
		append(nets(16), net(0)),
	}
	for _, p := range wrongPrefixes() {
		l = append(l, []api.Prefix{p}, []api.Prefix{net(1), p}, []api.Prefix{p, net(1)})
	}
	return l
}

// wrongPrefixes are those that may not be, and those that may not be told.
func wrongPrefixes() []api.Prefix {
	l := []api.Prefix{
		{Addr: 0x0a000001, Len: 8}, {Addr: 0x0a800000, Len: 8}, {Addr: 1}, {Addr: 0x80000000}, {Addr: 0xdfffffff, Len: 31},
		{Len: 1}, {Len: 8}, {Len: 32}, {Addr: 1, Len: 32}, {Addr: 0x00010000, Len: 16}, {Addr: 0x00ffffff, Len: 32},
		{Addr: 0x7f000000, Len: 8}, {Addr: 0x7fffffff, Len: 32},
		{Addr: 0xe0000000, Len: 3}, {Addr: 0xe0000009, Len: 32}, {Addr: 0xefff0000, Len: 16},
		{Addr: 0xf0000000, Len: 4}, {Addr: 0xffffffff, Len: 32},
	}
	for _, n := range []int{math.MinInt, math.MinInt + 8, -1 << 32, -24, -1, 33, 64, 256, 264, 1 << 31, 1 << 32, 1<<32 + 24, math.MaxInt} {
		l = append(l, api.Prefix{Len: n}, api.Prefix{Addr: 0x0a000000, Len: n})
	}
	return l
}

// wrong are configurations that may not be, each for one thing, with what is wrong.
func wrong() map[string]api.Config {
	all := map[string]api.Config{"zero": {}}
	for _, f := range fields() {
		for _, n := range []int64{math.MinInt64, -1 << 32, -1, 0, 1000001, 1<<32 + 5, math.MaxInt64} {
			if n == 0 && f.least == 0 {
				continue
			}
			c := plain()
			*f.of(&c) = n
			all[fmt.Sprint(f.name, " ", n)] = c
		}
	}
	for _, n := range []int{math.MinInt, -1 << 32, -1, 0, 1, 2, 257, 1<<32 + 20, math.MaxInt} {
		c := plain()
		c.Cap = n
		all[fmt.Sprint("cap ", n)] = c
	}
	for i, own := range wrongOwns() {
		c := plain()
		c.Cap, c.Own = 256, own
		all[fmt.Sprint("own ", i)] = c
	}
	return all
}

// checkCheck holds Check against the second writing.
func checkCheck(t *testing.T, c api.Config) {
	t.Helper()
	want := api.ErrArg
	if may(c) {
		want = api.OK
	}
	if e := config.Check(c); e != want {
		t.Errorf("Check(%v) = %d, want %d", c, e, want)
	}
}

// P8.1
func TestCheck(t *testing.T) {
	if e := config.Check(plain()); e != api.OK {
		t.Errorf("Check of a plain one = %d", e)
	}
	if e := config.Check(api.Config{Period: 1, Timeout: 1, Garbage: 1, Cap: 1}); e != api.OK {
		t.Errorf("Check of the least one = %d", e)
	}
	greatest := api.Config{Cap: 256, Own: nets(16)}
	for _, f := range fields() {
		*f.of(&greatest) = 1000000
	}
	if e := config.Check(greatest); e != api.OK {
		t.Errorf("Check of the greatest one = %d", e)
	}
	for said, c := range wrong() {
		if e := config.Check(c); e != api.ErrArg {
			t.Errorf("%s: Check = %d, want %d", said, e, api.ErrArg)
		}
	}
}

// P8.1: each span at each number, and each two of them.
func TestCheckOfEachSpan(t *testing.T) {
	for _, f := range fields() {
		for _, n := range numbers() {
			c := plain()
			*f.of(&c) = n
			checkCheck(t, c)
			for _, g := range fields() {
				for _, m := range numbers() {
					*g.of(&c) = m
					checkCheck(t, c)
				}
			}
		}
	}
}

// P8.1: a configuration that does not settle may be.
func TestCheckAsksNotWhetherItSettles(t *testing.T) {
	c := plain()
	c.Timeout = 1
	if e := config.Check(c); e != api.OK {
		t.Errorf("Check of one that settles with no delay = %d", e)
	}
}

// P8.1: as many as there may be, of each Cap.
func TestCheckOfHowMany(t *testing.T) {
	for _, n := range numbers() {
		for many := range 20 {
			c := plain()
			c.Cap, c.Own = int(n), nets(many)
			checkCheck(t, c)
		}
	}
	for most := range 260 {
		for _, many := range []int{0, 1, most - 1, most, most + 1, 15, 16, 17} {
			c := plain()
			c.Cap, c.Own = most, nets(max(many, 0))
			checkCheck(t, c)
		}
	}
}

// P8.1: each prefix as the one that is owned.
func TestCheckOfEachPrefix(t *testing.T) {
	some := 0
	for _, a := range []api.Addr{0, 1, 0x00ffffff, 0x01000000, 0x0a000000, 0x0a010203, 0x7effffff, 0x7f000000, 0x7f000001, 0x7fffffff, 0x80000000, 0xc0a80000, 0xdfffffff, 0xe0000000, 0xefffffff, 0xf0000000, 0xffffffff} {
		for n := -2; n < 36; n++ {
			c := plain()
			c.Own = []api.Prefix{{Addr: a, Len: n}}
			checkCheck(t, c)
			if n >= 0 && n <= 32 {
				c.Own[0].Addr = a >> (32 - n) << (32 - n)
				checkCheck(t, c)
			}
			if may(c) {
				some++
			}
		}
	}
	if some < 100 {
		t.Errorf("just %d may be", some)
	}
	for _, p := range wrongPrefixes() {
		c := plain()
		c.Own = []api.Prefix{p}
		if e := config.Check(c); e != api.ErrArg {
			t.Errorf("Check of Own %v = %d", p, e)
		}
	}
}

// P8.1: prefixes that have addresses in both are not the same.
func TestCheckOfPrefixesWithinOneAnother(t *testing.T) {
	c := plain()
	c.Own = []api.Prefix{{}, {Addr: 0x0a000000, Len: 7}, {Addr: 0x0a000000, Len: 8}, {Addr: 0x0a000000, Len: 9}, {Addr: 0x0a000000, Len: 32}}
	if e := config.Check(c); e != api.OK {
		t.Errorf("Check of prefixes within one another = %d", e)
	}
}

// P8.1: one that is there twice, at each two places; each one wrong, at each place.
func TestCheckOfEachPlace(t *testing.T) {
	for many := range 17 {
		for i := range many {
			for j := range many {
				c := plain()
				c.Own = nets(many)
				c.Own[i] = c.Own[j]
				checkCheck(t, c)
			}
			for _, p := range wrongPrefixes() {
				c := plain()
				c.Own = nets(many)
				c.Own[i] = p
				checkCheck(t, c)
			}
		}
	}
}

// P8.1: it ends with many prefixes, too.
func TestCheckOfManyPrefixes(t *testing.T) {
	l := make([]api.Prefix, 1<<22)
	for i := range l {
		l[i] = api.Prefix{Addr: api.Addr(i) | 0x80000000, Len: 32}
	}
	c := plain()
	c.Own = l
	if e := config.Check(c); e != api.ErrArg {
		t.Errorf("Check of many prefixes = %d", e)
	}
	if c, e := config.Standard(l...); !reflect.DeepEqual(c, api.Config{}) || e != api.ErrArg {
		t.Errorf("Standard of many prefixes = %v, %d", c, e)
	}
}

// P8.1: thousands of configurations, with any of all numbers.
func TestCheckOfAny(t *testing.T) {
	draw := rand.New(rand.NewSource(8))
	l := numbers()
	good := 0
	for range 20000 {
		c := plain()
		for _, f := range fields() {
			if draw.Intn(8) == 0 {
				*f.of(&c) = l[draw.Intn(len(l))]
			}
		}
		if draw.Intn(8) == 0 {
			c.Cap = int(l[draw.Intn(len(l))])
		}
		if draw.Intn(3) == 0 {
			c.Own = wrongOwns()[draw.Intn(len(wrongOwns()))]
		}
		checkCheck(t, c)
		if may(c) {
			good++
		}
	}
	if good < 1000 {
		t.Errorf("just %d may be", good)
	}
}

// standard is what the document says of a standard one, with this Own.
func standard(own []api.Prefix) api.Config {
	return api.Config{Period: 25, Jitter: 10, Timeout: 180, Hold: 120, Garbage: 120, Quiet: 1, Spread: 4, Cap: 256, Own: own}
}

// P8.1
func TestStandard(t *testing.T) {
	owns := [][]api.Prefix{
		nil,
		{{}},
		{{Addr: 0x0a000000, Len: 8}},
		{net(2), net(1)},
		{net(1), net(2)},
		{{Addr: 0x0a000000, Len: 9}, {Addr: 0x0a000000, Len: 8}, {}},
		nets(15), nets(16),
	}
	for _, own := range owns {
		c, e := config.Standard(own...)
		if e != api.OK || !reflect.DeepEqual(c, standard(own)) {
			t.Errorf("Standard of %v = %v, %d", own, c, e)
		}
		if e := config.Check(c); e != api.OK {
			t.Errorf("Check of Standard of %v = %d", own, e)
		}
	}
	if c, e := config.Standard([]api.Prefix{}...); e != api.OK || len(c.Own) != 0 || c.Cap != 256 {
		t.Errorf("Standard of an empty list = %v, %d", c, e)
	}
}

// P8.1: prefixes that may not be Own: beside the error there is nothing.
func TestStandardRefuses(t *testing.T) {
	for _, own := range wrongOwns() {
		if c, e := config.Standard(own...); e != api.ErrArg || !reflect.DeepEqual(c, api.Config{}) {
			t.Errorf("Standard of %v = %v, %d", own, c, e)
		}
	}
}

// P8.1: what is handed in is not changed, and not kept; no two answers share anything.
func TestStandardIsNewMemory(t *testing.T) {
	room := []api.Prefix{net(9), net(3), net(8), net(7)}
	own := room[:2]
	a, _ := config.Standard(own...)
	b, _ := config.Standard(own...)
	if !slices.Equal(room, []api.Prefix{net(9), net(3), net(8), net(7)}) {
		t.Errorf("what was handed in is %v", room)
	}
	own[0] = net(1)
	b.Own[1] = net(2)
	_ = append(b.Own, net(5))
	if !reflect.DeepEqual(a, standard([]api.Prefix{net(9), net(3)})) {
		t.Errorf("it shares: %v", a)
	}
	if !slices.Equal(room, []api.Prefix{net(1), net(3), net(8), net(7)}) {
		t.Errorf("what was handed in is %v", room)
	}
}

// P8.1: asking changes nothing of what is handed in.
func TestAskingChangesNothing(t *testing.T) {
	room := []api.Prefix{net(9), net(3), net(8), net(7), net(6)}
	c := plain()
	c.Own = room[:3]
	for range 2 {
		config.Check(c)
		config.Wait(c, 3)
		config.Quiet(c, 3)
		config.Bound(c, 3)
		config.Owns(c, net(3))
		config.Same(c, config.Copy(c))
		for range config.Spans(c) {
		}
	}
	want := plain()
	want.Own = []api.Prefix{net(9), net(3), net(8)}
	if !reflect.DeepEqual(c, want) || !slices.Equal(room[3:], []api.Prefix{net(7), net(6)}) {
		t.Errorf("it is %v, and behind it %v", c, room[3:])
	}
}

// P8.1
func TestOwns(t *testing.T) {
	c := plain()
	for n := range 6 {
		if is := config.Owns(c, net(n)); is != (n >= 1 && n <= 3) {
			t.Errorf("Owns(%v) = %t", net(n), is)
		}
	}
	// what only has addresses of one, or is around it
	for _, p := range []api.Prefix{{}, {Addr: net(1).Addr, Len: 23}, {Addr: net(1).Addr, Len: 25}, {Addr: net(1).Addr + 1, Len: 24}, {Addr: net(2).Addr, Len: 23}} {
		if config.Owns(c, p) {
			t.Errorf("Owns(%v), but it is none of them", p)
		}
	}
	if config.Owns(api.Config{}, api.Prefix{}) {
		t.Error("one of none owns 0.0.0.0/0")
	}
}

// P8.1: of any configuration, and any prefix, those that may not be as well.
func TestOwnsOfAny(t *testing.T) {
	for said, c := range wrong() {
		for _, p := range append(wrongPrefixes(), api.Prefix{}, net(0), net(1), net(2), net(16), net(256), net(257)) {
			want := false
			for _, q := range c.Own {
				want = want || q == p
			}
			if is := config.Owns(c, p); is != want {
				t.Errorf("%s: Owns(%v) = %t", said, p, is)
			}
		}
	}
}

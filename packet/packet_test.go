package packet_test

import (
	"slices"
	"testing"

	"waywarden/api"
	"waywarden/entry"
	"waywarden/packet"
)

// P5.2
func TestAsksAll(t *testing.T) {
	all := api.Entry{Metric: 16}
	rows := []struct {
		d    api.Datagram
		want bool
	}{
		{api.Datagram{Command: 1, Entries: []api.Entry{all}}, true},
		{api.Datagram{Command: 1, Entries: []api.Entry{entry.All()}}, true},
		{api.Datagram{Command: 2, Entries: []api.Entry{all}}, false},
		{api.Datagram{Command: 1}, false},
		{api.Datagram{Command: 1, Entries: []api.Entry{}}, false},
		{api.Datagram{Command: 1, Entries: []api.Entry{all, all}}, false},
		{api.Datagram{Command: 1, Entries: []api.Entry{all, {}}}, false},
		{api.Datagram{Command: 1, Entries: []api.Entry{{}, all}}, false},
		{api.Datagram{Command: 1, Entries: []api.Entry{{}}}, false},
		{api.Datagram{Command: 1, Entries: []api.Entry{{Metric: 15}}}, false},
		{api.Datagram{Command: 1, Entries: []api.Entry{{Metric: 17}}}, false},
		{api.Datagram{Command: 1, Entries: []api.Entry{{Family: 2, Metric: 16}}}, false},
		{api.Datagram{Command: 1, Entries: []api.Entry{{Tag: 1, Metric: 16}}}, false},
		{api.Datagram{Command: 1, Entries: []api.Entry{{Addr: 1, Metric: 16}}}, false},
		{api.Datagram{Command: 1, Entries: []api.Entry{{Mask: 1, Metric: 16}}}, false},
		{api.Datagram{Command: 1, Entries: []api.Entry{{Next: 1, Metric: 16}}}, false},
		// such as may not be
		{api.Datagram{}, false},
		{api.Datagram{Entries: []api.Entry{all}}, false},
		{api.Datagram{Command: 3, Entries: []api.Entry{all}}, false},
		{api.Datagram{Command: 1, Entries: []api.Entry{{Family: -1, Metric: 16}}}, false},
		{api.Datagram{Command: 1, Entries: []api.Entry{{Family: 1 << 32, Metric: 16}}}, false},
		{api.Datagram{Command: 1, Entries: slices.Repeat([]api.Entry{all}, 26)}, false},
	}
	for _, r := range rows {
		if got := packet.AsksAll(r.d); got != r.want {
			t.Errorf("AsksAll(%x) = %t", r.d, got)
		}
	}
	for _, n := range ints() {
		if got := packet.AsksAll(api.Datagram{Command: api.Command(n), Entries: []api.Entry{all}}); got != (n == 1) {
			t.Errorf("AsksAll of the Command %d = %t", n, got)
		}
	}
}

// P5.2: each part of a datagram, bent, is another one.
func TestSame(t *testing.T) {
	bends := []func(*api.Datagram){
		func(d *api.Datagram) {},
		func(d *api.Datagram) { d.Command = 1 },
		func(d *api.Datagram) { d.Command = 0 },
		func(d *api.Datagram) { d.Command = 1<<32 + 2 },
		func(d *api.Datagram) { d.Entries = nil },
		func(d *api.Datagram) { d.Entries = d.Entries[:1] },
		func(d *api.Datagram) { d.Entries = d.Entries[1:] },
		func(d *api.Datagram) { slices.Reverse(d.Entries) },
		func(d *api.Datagram) { d.Entries = append(d.Entries, api.Entry{}) },
		func(d *api.Datagram) { d.Entries = append(d.Entries, entriesOf(40)...) },
		func(d *api.Datagram) { d.Entries[1] = d.Entries[0] },
		func(d *api.Datagram) { d.Entries[0].Family++ },
		func(d *api.Datagram) { d.Entries[0].Family = -1 },
		func(d *api.Datagram) { d.Entries[1].Tag++ },
		func(d *api.Datagram) { d.Entries[2].Addr++ },
		func(d *api.Datagram) { d.Entries[0].Mask++ },
		func(d *api.Datagram) { d.Entries[1].Next++ },
		func(d *api.Datagram) { d.Entries[2].Metric++ },
		func(d *api.Datagram) { d.Entries[2].Family += 1 << 32 },
	}
	bent := func(i int) api.Datagram {
		d := api.Datagram{Command: 2, Entries: entriesOf(3)}
		bends[i](&d)
		return d
	}
	for i := range bends {
		for j := range bends {
			if got := packet.Same(bent(i), bent(j)); got != (i == j) {
				t.Errorf("Same of the bends %d and %d = %t", i, j, got)
			}
		}
	}
	if !packet.Same(api.Datagram{}, api.Datagram{}) {
		t.Error("two zero datagrams are not the same")
	}
	// nil and empty mean the same
	if !packet.Same(api.Datagram{Command: 1}, api.Datagram{Command: 1, Entries: []api.Entry{}}) {
		t.Error("none and none are not the same")
	}
	// how much room there is behind means nothing
	if !packet.Same(api.Datagram{Command: 1, Entries: entriesOf(9)[:4]}, api.Datagram{Command: 1, Entries: entriesOf(4)}) {
		t.Error("spare room is looked at")
	}
}

// joined are the entries of datagrams, one behind the other.
func joined(all []api.Datagram) []api.Entry {
	var l []api.Entry
	for _, d := range all {
		l = append(l, d.Entries...)
	}
	return l
}

// P5.2, P5.4: lists of each length, also with spare room behind: how many each one has, and all of them together.
func TestCut(t *testing.T) {
	room := entriesOf(160)
	for n := range 130 {
		for _, c := range []api.Command{1, 2} {
			all, e := packet.Cut(c, room[:n]...)
			if e != api.OK || len(all) != (n+24)/25 {
				t.Errorf("Cut of %d: %d datagrams, %d", n, len(all), e)
				continue
			}
			for i, d := range all {
				want := 25
				if i == len(all)-1 {
					want = n - 25*i
				}
				if d.Command != c || len(d.Entries) != want {
					t.Errorf("Cut of %d: at %d the Command %d, %d entries", n, i, d.Command, len(d.Entries))
				}
				if _, e := packet.Encode(d); e != api.OK {
					t.Errorf("Cut of %d: what stands at %d has no bytes: %d", n, i, e)
				}
			}
			if !slices.Equal(joined(all), room[:n]) {
				t.Errorf("Cut of %d: joined %x", n, joined(all))
			}
		}
	}
	if !slices.Equal(room, entriesOf(160)) {
		t.Error("Cut changed what it was handed")
	}
}

// P5.2: of no entries there is none.
func TestCutOfNone(t *testing.T) {
	for _, l := range [][]api.Entry{nil, {}, entriesOf(3)[:0]} {
		if all, e := packet.Cut(2, l...); len(all) != 0 || e != api.OK {
			t.Errorf("Cut of none = %x, %d", all, e)
		}
	}
}

// P5.2: many; Cut knows no bound.
func TestCutOfMany(t *testing.T) {
	l := slices.Repeat(entriesOf(97), 1000)
	all, e := packet.Cut(1, l...)
	if len(all) != 97000/25 || e != api.OK || !slices.Equal(joined(all), l) {
		t.Errorf("Cut of many: %d datagrams, %d", len(all), e)
	}
}

// P5.2
func TestCutRefuses(t *testing.T) {
	for _, n := range ints() {
		if n == 1 || n == 2 {
			continue
		}
		for _, l := range [][]api.Entry{nil, entriesOf(1), entriesOf(26), {{Tag: -1}}} {
			if all, e := packet.Cut(api.Command(n), l...); all != nil || e != api.ErrArg {
				t.Errorf("Cut of the Command %d, %d entries = %x, %d", n, len(l), all, e)
			}
		}
	}
	for _, many := range []int{1, 2, 25, 26, 60} {
		for at := range many {
			for _, n := range ints() {
				l := entriesOf(many)
				if n < 0 || n > 65535 {
					l[at].Tag = n
					if all, e := packet.Cut(2, l...); all != nil || e != api.ErrArg {
						t.Errorf("%d entries, Tag %d at %d: %d datagrams, %d", many, n, at, len(all), e)
					}
				}
			}
		}
	}
}

// P5.2: none of the datagrams shares memory with the list, with another one, or with another answer.
func TestCutAnswersNewEntries(t *testing.T) {
	l := entriesOf(60)
	one, _ := packet.Cut(2, l...)
	two, _ := packet.Cut(2, l...)
	for i := range one {
		_ = append(one[i].Entries, make([]api.Entry, 30)...)
	}
	if !slices.Equal(joined(one), entriesOf(60)) {
		t.Error("a datagram's room is another one's")
	}
	for i := range one {
		clear(one[i].Entries)
		_ = append(one[i].Entries[:0], make([]api.Entry, 60)...)
	}
	if !slices.Equal(l, entriesOf(60)) {
		t.Error("Cut's answer shares memory with its list")
	}
	if !slices.Equal(joined(two), entriesOf(60)) {
		t.Error("two answers of Cut share memory")
	}
	clear(l)
	if !slices.Equal(joined(two), entriesOf(60)) {
		t.Error("Cut's answer is kept in its list")
	}
}

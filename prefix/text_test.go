package prefix_test

import (
	"fmt"
	"strings"
	"testing"

	"waywarden/api"
	"waywarden/prefix"
)

// text is a prefix's text.
func text(p api.Prefix) string {
	return fmt.Sprintf("%d.%d.%d.%d/%d", p.Addr>>24, p.Addr>>16&0xff, p.Addr>>8&0xff, p.Addr&0xff, p.Len)
}

// whole is the prefix whose text it is, if it is one's: read roughly, and held against that one's text.
func whole(s string) (api.Prefix, bool) {
	var a, b, c, d api.Addr
	var n int
	if k, _ := fmt.Sscanf(s, "%d.%d.%d.%d/%d", &a, &b, &c, &d, &n); k != 5 {
		return api.Prefix{}, false
	}
	p := api.Prefix{Addr: a<<24 | b<<16 | c<<8 | d, Len: n}
	return p, mayBe(p) && text(p) == s
}

// checkParse holds what Parse tells of a text against what the document asks.
func checkParse(t *testing.T, s string) {
	t.Helper()
	p, e := prefix.Parse(s)
	want, is := whole(s)
	if !is {
		if p != (api.Prefix{}) || e != api.ErrPrefix {
			t.Errorf("Parse(%q) = %v, %d, want nothing, %d", s, p, e, api.ErrPrefix)
		}
		return
	}
	if p != want || e != api.OK {
		t.Errorf("Parse(%q) = %v, %d, want %v", s, p, e, want)
	}
	if back, e := prefix.Text(p); back != s || e != api.OK {
		t.Errorf("Text(Parse(%q)) = %q, %d", s, back, e)
	}
}

// P2.3
func TestText(t *testing.T) {
	rows := map[api.Prefix]string{
		{}:                          "0.0.0.0/0",
		{Addr: 0x0a000000, Len: 8}:  "10.0.0.0/8",
		{Addr: 0x0a000100, Len: 24}: "10.0.1.0/24",
		{Addr: 0xffffffff, Len: 32}: "255.255.255.255/32",
		{Addr: 0x80000000, Len: 1}:  "128.0.0.0/1",
		{Addr: 0, Len: 10}:          "0.0.0.0/10",
		{Addr: 0x0a0b0c00, Len: 30}: "10.11.12.0/30",
		{Addr: 0x01020304, Len: 32}: "1.2.3.4/32",
		{Addr: 0x01020304, Len: 30}: "1.2.3.4/30",
		{Addr: 0xfffffffe, Len: 31}: "255.255.255.254/31",
		{Addr: 0xac100000, Len: 12}: "172.16.0.0/12",
		{Addr: 0xc0a80100, Len: 25}: "192.168.1.0/25",
		{Addr: 0x00000001, Len: 32}: "0.0.0.1/32",
		{Addr: 0x7f000000, Len: 9}:  "127.0.0.0/9",
		{Addr: 0xe0000009, Len: 32}: "224.0.0.9/32",
		{Addr: 0xf0000000, Len: 4}:  "240.0.0.0/4",
		{Addr: 0x64400000, Len: 10}: "100.64.0.0/10",
		{Addr: 0x09080706, Len: 31}: "9.8.7.6/31",
		{Addr: 0x00000000, Len: 32}: "0.0.0.0/32",
		{Addr: 0xff000000, Len: 8}:  "255.0.0.0/8",
		{Addr: 0xfffff000, Len: 20}: "255.255.240.0/20",
		{Addr: 0x0a000000, Len: 7}:  "10.0.0.0/7",
		{Addr: 0x0a000000, Len: 19}: "10.0.0.0/19",
		{Addr: 0x0a000000, Len: 29}: "10.0.0.0/29",
		{Addr: 0xc0000000, Len: 2}:  "192.0.0.0/2",
		{Addr: 0xe0000000, Len: 3}:  "224.0.0.0/3",
		{Addr: 0xf8000000, Len: 5}:  "248.0.0.0/5",
		{Addr: 0xfc000000, Len: 6}:  "252.0.0.0/6",
		{Addr: 0x0a000000, Len: 9}:  "10.0.0.0/9",
	}
	for p, want := range rows {
		if s, e := prefix.Text(p); s != want || e != api.OK {
			t.Errorf("Text(%v) = %q, %d, want %q", p, s, e, want)
		}
	}
	for _, p := range some() {
		if s, e := prefix.Text(p); s != text(p) || e != api.OK {
			t.Errorf("Text(%v) = %q, %d, want %q", p, s, e, text(p))
		}
	}
	for _, p := range wrong() {
		if s, e := prefix.Text(p); s != "" || e != api.ErrArg {
			t.Errorf("Text(%v) = %q, %d, want nothing, %d", p, s, e, api.ErrArg)
		}
	}
}

// P2.3
func TestParseTakes(t *testing.T) {
	rows := map[string]api.Prefix{
		"0.0.0.0/0":          {},
		"0.0.0.0/1":          {Len: 1},
		"0.0.0.0/32":         {Len: 32},
		"10.0.0.0/8":         {Addr: 0x0a000000, Len: 8},
		"10.0.0.0/10":        {Addr: 0x0a000000, Len: 10},
		"10.0.1.0/24":        {Addr: 0x0a000100, Len: 24},
		"1.2.3.4/30":         {Addr: 0x01020304, Len: 30},
		"1.2.3.4/32":         {Addr: 0x01020304, Len: 32},
		"128.0.0.0/1":        {Addr: 0x80000000, Len: 1},
		"255.255.255.254/31": {Addr: 0xfffffffe, Len: 31},
		"255.255.255.255/32": {Addr: 0xffffffff, Len: 32},
	}
	for s, want := range rows {
		if p, e := prefix.Parse(s); p != want || e != api.OK {
			t.Errorf("Parse(%q) = %v, %d, want %v", s, p, e, want)
		}
	}
}

// P2.3
func TestParseRefuses(t *testing.T) {
	for _, s := range []string{
		"", "/", "//", "/8", "8", "10.0.0.0", "10.0.0.0/", "10.0.0.0//8", "10.0.0.0/8/", "10.0.0.0/8/8", "/10.0.0.0/8", "10.0.0.0\\8", "10.0.0.0 8", "10.0.0.08", "10.0.0.0.8",
		// one that may not be
		"10.0.0.1/8", "10.0.0.0/6", "10.0.0.0/0", "128.0.0.0/0", "0.0.0.1/0", "255.255.255.255/31", "1.2.3.4/29", "10.0.0.0/33", "0.0.0.0/33", "0.0.0.0/40", "0.0.0.0/99", "0.0.0.0/100", "0.0.0.0/320",
		// numbers that come round to one that may be
		"0.0.0.0/256", "0.0.0.0/264", "0.0.0.0/4294967296", "0.0.0.0/4294967304", "0.0.0.0/18446744073709551616", "0.0.0.0/18446744073709551624", "0.0.0.0/36893488147419103240",
		// noughts ahead
		"10.0.0.0/08", "10.0.0.0/008", "0.0.0.0/00", "0.0.0.0/01", "0.0.0.0/032", "0.0.0.0/000000000000000000000000000000000008",
		// signs, blanks, other bytes
		"10.0.0.0/-8", "10.0.0.0/+8", "0.0.0.0/-0", "10.0.0.0/ 8", "10.0.0.0/8 ", " 10.0.0.0/8", "10.0.0.0 /8", "10.0.0.0/8\n", "10.0.0.0/8\x00", "\x0010.0.0.0/8", "10.0.0.0/0x8", "10.0.0.0/8a", "10.0.0.0/a8", "10.0.0.0/1_6", "10.0.0.0/1e1", "10.0.0.0/8.", "10.0.0.0/.8", "10.0.0.0/8.0", "10.0.0.0/255.0.0.0", "10.0.0.0/8 10.0.0.0/8",
		// an address's text that is none
		"10.0.0/8", "10.0.0./8", "10.0.0.0./8", "10.0.0.0.0/8", "10/8", "010.0.0.0/8", "10.0.0.00/8", "256.0.0.0/8", "10.0.0.256/32", "-1.0.0.0/8", "10..0.0/8", "x/8", "a.b.c.d/8",
		// more than a byte a sign, and no UTF-8
		"10.0.0.0/８", "10.0.0.0/٨", "１0.0.0.0/8", "10.0.0.0∕8", "10.0.0.0／8", "10.0.0.0/8é", "é10.0.0.0/8", "10.0.0.0/\xff", "10.0.0.0/8\xff", "\xff10.0.0.0/8", "10.0.0.0\xff/8", "10.0.0.0\xc0\xaf8", "10.0.0.0/\xb8", "10.0.0.0/8\ufffd", "\ufeff10.0.0.0/8",
	} {
		if p, e := prefix.Parse(s); p != (api.Prefix{}) || e != api.ErrPrefix {
			t.Errorf("Parse(%q) = %v, %d, want nothing, %d", s, p, e, api.ErrPrefix)
		}
	}
}

// P2.3: each number from 0 on as the Len.
func TestParseOfEachLen(t *testing.T) {
	for n := range 1100 {
		for _, a := range []string{"0.0.0.0", "128.0.0.0", "10.0.0.0", "10.1.0.0", "255.255.255.254", "255.255.255.255"} {
			checkParse(t, fmt.Sprintf("%s/%d", a, n))
			checkParse(t, fmt.Sprintf("%s/0%d", a, n))
			checkParse(t, fmt.Sprintf("%s/-%d", a, n))
		}
	}
}

// P2.3: each bit behind the Len, alone, makes it one that may not be.
func TestParseOfEachBit(t *testing.T) {
	for n := range 33 {
		for i := range 32 {
			p := api.Prefix{Addr: 1 << i, Len: n}
			_, e := prefix.Parse(text(p))
			if (e == api.OK) != (31-i < n) {
				t.Errorf("Parse(%q): %d", text(p), e)
			}
			checkParse(t, text(p))
		}
	}
}

// P2.3: each byte behind, and in place of a byte of, a prefix's text.
func TestParseOfEachByteAtEachPlace(t *testing.T) {
	for _, s := range []string{"10.0.0.0/8", "0.0.0.0/0", "255.255.255.255/32", "172.16.0.0/12"} {
		for i := range len(s) + 1 {
			checkParse(t, s[:i])
			checkParse(t, s[i:])
			for b := range 256 {
				one := string([]byte{byte(b)})
				checkParse(t, s[:i]+one+s[i:])
				if i < len(s) {
					checkParse(t, s[:i]+one+s[i+1:])
				}
			}
		}
	}
}

// each calls f with all texts of these bytes that are no longer than most.
func each(bytes string, most int, f func(string)) {
	var grow func(s string)
	grow = func(s string) {
		f(s)
		for i := 0; len(s) < most && i < len(bytes); i++ {
			grow(s + bytes[i:i+1])
		}
	}
	grow("")
}

// P2.3
func TestParseOfAllShortTexts(t *testing.T) {
	each("0123./ -", 3, func(s string) {
		checkParse(t, s)
		checkParse(t, "0.0.0.0"+s)
		checkParse(t, "0.0.0.0/"+s)
		checkParse(t, "128.0.0"+s)
		checkParse(t, s+"0.0.0.0/1")
	})
	each("03/.", 6, func(s string) { checkParse(t, "0.0.0"+s) })
}

// P2.3
func TestParseOfLongTexts(t *testing.T) {
	long := 1 << 20
	for _, s := range []string{
		strings.Repeat("1", long),
		strings.Repeat("/", long),
		strings.Repeat(".", long),
		strings.Repeat("\xff", long),
		strings.Repeat("10.0.0.0/8", long/10),
		"10.0.0.0/" + strings.Repeat("0", long),
		"0.0.0.0/" + strings.Repeat("0", long) + "8",
		"0.0.0.0/" + strings.Repeat("1", long),
		"10.0.0.0/8" + strings.Repeat(" ", long),
		strings.Repeat("0", long) + "/8",
	} {
		if p, e := prefix.Parse(s); p != (api.Prefix{}) || e != api.ErrPrefix {
			t.Errorf("Parse(%q..) = %v, %d, want nothing, %d", s[:16], p, e, api.ErrPrefix)
		}
	}
}

// P2.5
func TestParseUndoesText(t *testing.T) {
	for _, p := range some() {
		s, e := prefix.Text(p)
		if e != api.OK {
			t.Fatalf("Text(%v): %d", p, e)
		}
		if back, e := prefix.Parse(s); back != p || e != api.OK {
			t.Errorf("Parse(Text(%v)) = %v, %d", p, back, e)
		}
	}
}

// P2.3: a call tells the same again, whatever was called between.
func TestParseTellsTheSameAgain(t *testing.T) {
	for range 3 {
		checkParse(t, "10.0.0.0/8")
		checkParse(t, "10.0.0.0")
		checkParse(t, "")
		checkParse(t, "255.255.255.255/32")
		checkParse(t, "10.0.0.0/")
	}
}

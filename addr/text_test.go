package addr_test

import (
	"fmt"
	"strings"
	"testing"

	"waywarden/addr"
	"waywarden/api"
)

// wholePart: the text is a part's. It is written apart from the program, by the numbers' own texts.
func wholePart(s string) bool {
	if len(s) == 0 || len(s) > 3 {
		return false
	}
	n := 0
	for _, b := range []byte(s) {
		if b < '0' || b > '9' {
			return false
		}
		n = n*10 + int(b-'0')
	}
	return n <= 255 && fmt.Sprint(n) == s
}

// begins: the text begins some address's text.
func begins(s string) bool {
	parts := strings.Split(s, ".")
	last := len(parts) - 1
	for _, p := range parts[:last] {
		if !wholePart(p) {
			return false
		}
	}
	return len(parts) <= 4 && (parts[last] == "" || wholePart(parts[last]))
}

// whole: the text is an address's.
func whole(s string) bool {
	return strings.Count(s, ".") == 3 && begins(s) && !strings.HasSuffix(s, ".")
}

// wrongAt is where a text is wrong.
func wrongAt(s string) int {
	for i := range len(s) {
		if !begins(s[:i+1]) {
			return i
		}
	}
	return len(s)
}

// checkParse holds what Parse tells of a text against what the document asks.
func checkParse(t *testing.T, s string) {
	t.Helper()
	a, at, e := addr.Parse(s)
	if !whole(s) {
		if a != 0 || at != wrongAt(s) || e != api.ErrText {
			t.Errorf("Parse(%q) = %#x, %d, %d, want 0, %d, %d", s, a, at, e, wrongAt(s), api.ErrText)
		}
		return
	}
	var p [4]api.Addr
	if _, err := fmt.Sscanf(s, "%d.%d.%d.%d", &p[0], &p[1], &p[2], &p[3]); err != nil {
		t.Fatal(s, err)
	}
	want := p[0]<<24 | p[1]<<16 | p[2]<<8 | p[3]
	if a != want || at != len(s) || e != api.OK {
		t.Errorf("Parse(%q) = %#x, %d, %d, want %#x, %d, 0", s, a, at, e, want, len(s))
	}
	if back := addr.Text(a); back != s {
		t.Errorf("Text(Parse(%q)) = %q", s, back)
	}
}

// P1.2
func TestText(t *testing.T) {
	rows := map[api.Addr]string{
		0:          "0.0.0.0",
		1:          "0.0.0.1",
		0x0a000102: "10.0.1.2",
		0x01020304: "1.2.3.4",
		0x7f000001: "127.0.0.1",
		0x64090a63: "100.9.10.99",
		0xff00ff00: "255.0.255.0",
		0xffffffff: "255.255.255.255",
	}
	for a, want := range rows {
		if s := addr.Text(a); s != want {
			t.Errorf("Text(%#x) = %q, want %q", a, s, want)
		}
	}
	for _, a := range some() {
		want := fmt.Sprintf("%d.%d.%d.%d", a>>24, a>>16&0xff, a>>8&0xff, a&0xff)
		if s := addr.Text(a); s != want {
			t.Errorf("Text(%#x) = %q, want %q", a, s, want)
		}
	}
}

// P1.2: each number from 0 on, at each place, the first ones that are too great among them.
func TestParseOfEachPart(t *testing.T) {
	for n := range 1100 {
		for _, s := range []string{"%d.1.1.1", "1.%d.1.1", "1.1.%d.1", "1.1.1.%d"} {
			checkParse(t, fmt.Sprintf(s, n))
		}
	}
}

// P1.2
func TestParseTakes(t *testing.T) {
	rows := map[string]api.Addr{
		"0.0.0.0":         0,
		"10.0.1.2":        0x0a000102,
		"1.2.3.4":         0x01020304,
		"9.10.99.100":     0x090a6364,
		"199.200.249.250": 0xc7c8f9fa,
		"255.255.255.255": 0xffffffff,
		"0.255.0.255":     0x00ff00ff,
	}
	for s, want := range rows {
		if a, at, e := addr.Parse(s); a != want || at != len(s) || e != api.OK {
			t.Errorf("Parse(%q) = %#x, %d, %d, want %#x", s, a, at, e, want)
		}
	}
}

// P1.2
func TestParseTellsWhereATextIsWrong(t *testing.T) {
	rows := []struct {
		s  string
		at int
	}{
		{"10.0.1", 6}, {"10.256.1.1", 5}, {"10.01.1.1", 4}, {"10.0.1.2.", 8},
		// ends too early
		{"", 0}, {"1", 1}, {"255", 3}, {"1.", 2}, {"1.2", 3}, {"1.2.", 4}, {"1.2.3", 5}, {"1.2.3.", 6}, {"10.0.1.", 7}, {"255.255.255.", 12},
		// goes on too long
		{"10.0.1.2.3", 8}, {"10.0.1.2 ", 8}, {"10.0.1.2\n", 8}, {"10.0.1.2\x00", 8}, {"10.0.1.2 10.0.1.3", 8}, {"0.0.0.00", 7}, {"1.1.1.2555", 9}, {"255.255.255.2550", 15}, {"1.2.3.4/8", 7}, {"1.2.3.4:5", 7},
		// a nought ahead
		{"00.0.0.0", 1}, {"01.0.0.0", 1}, {"0.00.0.0", 3}, {"0.0.0.01", 7}, {"10.0.001.2", 6}, {"000000000", 1},
		// too great
		{"256.1.1.1", 2}, {"1.260.1.1", 4}, {"1.1.300.1", 6}, {"1.1.1.999", 8}, {"1000.1.1.1", 3}, {"1.1.1.256", 8}, {"99999999999999999999.1.1.1", 2}, {"18446744073709551617.1.1.1", 3}, {"4294967297.0.0.0", 2},
		// dots
		{".", 0}, {"....", 0}, {"..1.1", 0}, {".1.2.3.4", 0}, {"1..2.3", 2}, {"1.2..3", 4}, {"1.2.3..", 6}, {"10,0,1,2", 2},
		// other bytes
		{" ", 0}, {" 10.0.1.2", 0}, {"10. 0.1.2", 3}, {"10 .0.1.2", 2}, {"-1.0.0.0", 0}, {"+1.0.0.0", 0}, {"1.-2.0.0", 2}, {"0x0a.0.0.1", 1}, {"a.b.c.d", 0}, {"1e1.0.0.0", 1}, {"1_0.0.0.0", 1}, {"x", 0}, {"\x00", 0},
		// more than a byte a sign, digits of other scripts and dots among them
		{"é.0.0.0", 0}, {"1é.0.0.0", 1}, {"10.0.1.é", 7}, {"10.0.1.2é", 8}, {"٣.0.0.0", 0}, {"1٣.0.0.0", 1}, {"１.0.0.0", 0}, {"1.0.0.１", 6}, {"1。2。3。4", 1}, {"1.2.3\u00a04", 5}, {"\ufeff1.2.3.4", 0}, {"1.2.3.4\ufffd", 7}, {"1.2.😀.4", 4},
		// no UTF-8
		{"\xff", 0}, {"\x80.0.0.0", 0}, {"1\xff.0.0.0", 1}, {"10.0\xc3.1.2", 4}, {"10.0.1.2\xff", 8}, {"10.0.1.\xe2\x82", 7}, {"\xb1\xb0.0.0.1", 0}, {"\xc0\xb1.0.0.1", 0}, {"1.1.1.1\xed\xa0\x80", 7},
	}
	for _, r := range rows {
		if a, at, e := addr.Parse(r.s); a != 0 || at != r.at || e != api.ErrText {
			t.Errorf("Parse(%q) = %#x, %d, %d, want 0, %d, %d", r.s, a, at, e, r.at, api.ErrText)
		}
		checkParse(t, r.s)
	}
}

// P1.2: each byte behind, and in place of a byte of, what begins an address's text.
func TestParseOfEachByteAtEachPlace(t *testing.T) {
	for _, s := range []string{"10.0.1.2", "0.0.0.0", "255.255.255.255", "25.24.199.200", "1.20.255.9"} {
		for i := range len(s) + 1 {
			for b := range 256 {
				one := string([]byte{byte(b)})
				checkParse(t, s[:i]+one)
				checkParse(t, s[:i]+one+s[i:])
				if i < len(s) {
					checkParse(t, s[:i]+one+s[i+1:])
				}
			}
		}
	}
}

// each calls f with all texts of these bytes that are no longer than most.
func each(bytes string, most int, f func(string)) {
	var grow func(s string)
	grow = func(s string) {
		f(s)
		for i := 0; len(s) < most && i < len(bytes); i++ {
			grow(s + bytes[i:i+1])
		}
	}
	grow("")
}

// P1.2
func TestParseOfAllShortTexts(t *testing.T) {
	each("02568.", 6, func(s string) { checkParse(t, s) })
	each("05.", 9, func(s string) { checkParse(t, s) })
	each("256 ", 4, func(s string) {
		checkParse(t, s+".0.0.0")
		checkParse(t, "0.0.0."+s)
	})
}

// P1.2
func TestParseOfLongTexts(t *testing.T) {
	long := 1 << 20
	rows := map[string]int{
		strings.Repeat("1", long):                3,
		strings.Repeat("0", long):                1,
		strings.Repeat(".", long):                0,
		strings.Repeat("1.", long):               7,
		"10.0.1.2" + strings.Repeat("x", long):   8,
		strings.Repeat(" ", long):                0,
		"1.2.3." + strings.Repeat("\xff", long):  6,
		strings.Repeat("255.255.255.255 ", long): 15,
	}
	for s, want := range rows {
		if a, at, e := addr.Parse(s); a != 0 || at != want || e != api.ErrText {
			t.Errorf("Parse(%q..) = %#x, %d, %d, want 0, %d, %d", s[:16], a, at, e, want, api.ErrText)
		}
	}
}

// P1.4
func TestParseUndoesText(t *testing.T) {
	for _, a := range some() {
		s := addr.Text(a)
		if b, at, e := addr.Parse(s); b != a || at != len(s) || e != api.OK {
			t.Errorf("Parse(Text(%#x)) = %#x, %d, %d", a, b, at, e)
		}
	}
}

// P1.4
func TestTextUndoesParse(t *testing.T) {
	taken := 0
	each("012.", 8, func(s string) {
		a, _, e := addr.Parse(s)
		if e != api.OK {
			return
		}
		taken++
		if back := addr.Text(a); back != s {
			t.Errorf("Text(Parse(%q)) = %q", s, back)
		}
	})
	if taken < 81 {
		t.Errorf("only %d texts are taken", taken)
	}
}

// goesOn: with some text behind it, the text is an address's. Each beginning of one is made whole by one of these.
func goesOn(s string) bool {
	for _, rest := range []string{"", "0", ".0", "0.0", ".0.0", "0.0.0", ".0.0.0", "0.0.0.0"} {
		if _, _, e := addr.Parse(s + rest); e == api.OK {
			return true
		}
	}
	return false
}

// P1.4
func TestWhatStandsAheadOfTheWrongPlaceBeginsAnAddress(t *testing.T) {
	check := func(s string) {
		_, at, e := addr.Parse(s)
		if e == api.OK {
			return
		}
		if at < 0 || at > len(s) {
			t.Fatalf("Parse(%q) is wrong at %d", s, at)
		}
		if !goesOn(s[:at]) {
			t.Errorf("Parse(%q) is wrong at %d, but %q begins no address", s, at, s[:at])
		}
		if at < len(s) && goesOn(s[:at+1]) {
			t.Errorf("Parse(%q) is wrong at %d, but %q begins an address", s, at, s[:at+1])
		}
	}
	each("0256. ", 6, check)
	each("25.", 9, check)
	for _, s := range []string{"", "\xff", "1.2.3.\xff", "1.2.é.4", "256.256.256.256", "1.2.3.4.5", "01.2.3.4"} {
		check(s)
	}
}

// P1.2: a call tells the same again, whatever was called between.
func TestParseTellsTheSameAgain(t *testing.T) {
	for range 3 {
		checkParse(t, "10.0.1.2")
		checkParse(t, "10.0.1")
		checkParse(t, "")
		checkParse(t, "255.255.255.255")
	}
}

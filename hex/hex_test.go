package hex

import (
	"bytes"
	"math"
	"strings"
	"testing"

	"hornbook/api"
)

// oddInts are numbers that are no byte, or stand at the edge of what may be one.
var oddInts = []int{math.MinInt, math.MinInt + 1, -1 << 32, -256, -1, 128, 255, 256, 256 + '0', 256 + ' ', 1<<32 + '0', 1 << 32, math.MaxInt - 1, math.MaxInt}

// plainDigit says a digit's value by the promise's words.
func plainDigit(c int) (int, bool) {
	switch {
	case c >= '0' && c <= '9':
		return c - '0', true
	case c >= 'A' && c <= 'F':
		return c - 'A' + 10, true
	case c >= 'a' && c <= 'f':
		return c - 'a' + 10, true
	}
	return 0, false
}

// plainWhite says a blank by the document's list of them.
func plainWhite(c int) bool {
	return c == 0 || c == 9 || c == 10 || c == 12 || c == 13 || c == 32
}

// bytesAndOdd are all bytes, some numbers around them, and oddInts.
func bytesAndOdd() []int {
	l := append([]int{}, oddInts...)
	for c := -300; c < 700; c++ {
		l = append(l, c)
	}
	return l
}

// P1.1
func TestDigit(t *testing.T) {
	for _, c := range bytesAndOdd() {
		want, wantOK := plainDigit(c)
		if v, ok := Digit(c); v != want || ok != wantOK {
			t.Errorf("Digit(%d) = %d, %v, want %d, %v", c, v, ok, want, wantOK)
		}
	}
}

// P1.1
func TestWhite(t *testing.T) {
	for _, c := range bytesAndOdd() {
		if got := White(c); got != plainWhite(c) {
			t.Errorf("White(%d) = %v", c, got)
		}
	}
}

// P1.1
func TestHex(t *testing.T) {
	for _, x := range []struct {
		b    []byte
		want string
	}{
		{nil, ""},
		{[]byte{}, ""},
		{[]byte{0}, "00"},
		{[]byte{0x0f, 0xf0}, "0FF0"},
		{[]byte{0x01, 0x23, 0x45, 0x67, 0x89, 0xab, 0xcd, 0xef}, "0123456789ABCDEF"},
		{[]byte{255, 0, 255}, "FF00FF"},
	} {
		if got := Hex(x.b); got != x.want {
			t.Errorf("Hex(%v) = %q, want %q", x.b, got, x.want)
		}
	}
}

// P1.1
func TestHexOfEachByte(t *testing.T) {
	const digits = "0123456789ABCDEF"
	for c := range 256 {
		want := string([]byte{digits[c/16], digits[c%16]})
		if got := Hex([]byte{byte(c)}); got != want {
			t.Errorf("Hex of %d = %q, want %q", c, got, want)
		}
	}
}

// P1.1: what is handed in stays as it is (R3).
func TestHexLeavesItsArgument(t *testing.T) {
	b := []byte{1, 2, 254}
	Hex(b)
	Val(b)
	if !bytes.Equal(b, []byte{1, 2, 254}) {
		t.Error("the bytes were changed:", b)
	}
}

// P1.2
func TestUnHex(t *testing.T) {
	for _, x := range []struct {
		s    string
		want []byte
	}{
		{"", nil},
		{"4 a5", []byte{0x4a, 0x50}},
		{"4A50", []byte{0x4a, 0x50}},
		{"abcdefABCDEF", []byte{0xab, 0xcd, 0xef, 0xab, 0xcd, 0xef}},
		{"0123456789", []byte{0x01, 0x23, 0x45, 0x67, 0x89}},
		{"0", []byte{0}},
		{"f", []byte{0xf0}},
		{"00 0", []byte{0, 0}},
		{"\x00\t\n\f\r ", nil},
		{" 1\x002\t3\n4\f5\r6 ", []byte{0x12, 0x34, 0x56}},
		{"7  ", []byte{0x70}},
		{"1 2 3 ", []byte{0x12, 0x30}},
	} {
		if b, n, e := UnHex(x.s); !bytes.Equal(b, x.want) || n != len(x.s) || e != api.OK {
			t.Errorf("UnHex(%q) = %v, %d, %v, want %v, %d, OK", x.s, b, n, e, x.want, len(x.s))
		}
	}
}

// P1.2
func TestUnHexWrong(t *testing.T) {
	for _, x := range []struct {
		s  string
		at int
	}{
		{"g", 0}, {"@", 0}, {"/", 0}, {":", 0}, {"`", 0}, {"G", 0},
		{"4g", 1}, {"41 g", 3}, {"41g2", 2},
		{"  <41>", 2}, {"41>", 2},
		{"12\x0b34", 2}, // 11 is no blank
		{"12\u00a0", 2}, // nor is a blank of more than one byte
		{"1\xff", 1}, {"\x80", 0}, {"1\x7f", 1},
		{"g@", 0}, {"1x2y", 1}, // the first one of two
		{"-1", 0}, {"0x10", 1},
	} {
		if b, at, e := UnHex(x.s); len(b) != 0 || at != x.at || e != api.ErrHex {
			t.Errorf("UnHex(%q) = %v, %d, %v, want nothing, %d, ErrHex", x.s, b, at, e, x.at)
		}
	}
}

// P1.2
func TestUnHexOfEachByte(t *testing.T) {
	for c := range 256 {
		s := "12 3" + string([]byte{byte(c)}) + "4"
		want, at, e := []byte{0x12, 0x34}, len(s), api.OK
		if v, ok := plainDigit(c); ok {
			want = []byte{0x12, byte(0x30 + v), 0x40}
		} else if !plainWhite(c) {
			want, at, e = nil, 4, api.ErrHex
		}
		if b, at1, e1 := UnHex(s); !bytes.Equal(b, want) || at1 != at || e1 != e {
			t.Errorf("UnHex(%q) = %v, %d, %v, want %v, %d, %v", s, b, at1, e1, want, at, e)
		}
	}
}

// saneEdges are codes that are Sane, at the edges of each length.
var saneEdges = []api.Code{
	{N: 1, V: 0}, {N: 1, V: 1}, {N: 1, V: 255},
	{N: 2, V: 0}, {N: 2, V: 255}, {N: 2, V: 256}, {N: 2, V: 1<<16 - 1},
	{N: 3, V: 0}, {N: 3, V: 1 << 16}, {N: 3, V: 1<<24 - 1},
	{N: 4, V: 0}, {N: 4, V: 1 << 24}, {N: 4, V: 1 << 31}, {N: 4, V: 1<<32 - 1},
}

// wrongCodes are codes that are not Sane.
func wrongCodes() []api.Code {
	l := []api.Code{
		{}, {N: 0, V: 1}, {N: 5, V: 0}, {N: 5, V: 1}, {N: 8, V: 0}, {N: 64, V: 0}, {N: -1, V: 0},
		{N: 1, V: 256}, {N: 2, V: 1 << 16}, {N: 3, V: 1 << 24}, {N: 4, V: 1 << 32},
	}
	for n := 1; n <= 4; n++ {
		for _, v := range []int{-1, -256, math.MinInt, math.MaxInt} {
			l = append(l, api.Code{N: n, V: v})
		}
	}
	for _, n := range oddInts {
		l = append(l, api.Code{N: n, V: 0}, api.Code{N: n, V: n})
	}
	return l
}

// P1.3
func TestSane(t *testing.T) {
	for _, c := range saneEdges {
		if !Sane(c) {
			t.Errorf("Sane(%v) = false", c)
		}
	}
	for _, c := range wrongCodes() {
		if Sane(c) {
			t.Errorf("Sane(%v) = true", c)
		}
	}
}

// P1.3
func TestVal(t *testing.T) {
	for _, x := range []struct {
		b    []byte
		want api.Code
	}{
		{[]byte{0}, api.Code{N: 1, V: 0}},
		{[]byte{0x41}, api.Code{N: 1, V: 0x41}},
		{[]byte{0, 0}, api.Code{N: 2, V: 0}},
		{[]byte{1, 2}, api.Code{N: 2, V: 0x0102}},
		{[]byte{0xfe, 0xdc, 0xba}, api.Code{N: 3, V: 0xfedcba}},
		{[]byte{0, 0, 0, 7}, api.Code{N: 4, V: 7}},
		{[]byte{0x80, 0, 0, 0}, api.Code{N: 4, V: 1 << 31}},
		{[]byte{255, 255, 255, 255}, api.Code{N: 4, V: 1<<32 - 1}},
	} {
		if c, ok := Val(x.b); c != x.want || !ok {
			t.Errorf("Val(%v) = %v, %v, want %v, true", x.b, c, ok, x.want)
		}
	}
	for _, b := range [][]byte{nil, {}, {0, 0, 0, 0, 1}, {1, 2, 3, 4, 5}, make([]byte, 1000)} {
		if c, ok := Val(b); c != (api.Code{}) || ok {
			t.Errorf("Val of %d bytes = %v, %v", len(b), c, ok)
		}
	}
}

// P1.3
func TestBytesAndText(t *testing.T) {
	for _, x := range []struct {
		c    api.Code
		want []byte
		text string
	}{
		{api.Code{N: 1, V: 0}, []byte{0}, "<00>"},
		{api.Code{N: 1, V: 0xab}, []byte{0xab}, "<AB>"},
		{api.Code{N: 2, V: 1}, []byte{0, 1}, "<0001>"},
		{api.Code{N: 3, V: 0x010203}, []byte{1, 2, 3}, "<010203>"},
		{api.Code{N: 4, V: 0xdeadbeef}, []byte{0xde, 0xad, 0xbe, 0xef}, "<DEADBEEF>"},
		{api.Code{N: 4, V: 0}, []byte{0, 0, 0, 0}, "<00000000>"},
	} {
		if b := Bytes(x.c); !bytes.Equal(b, x.want) {
			t.Errorf("Bytes(%v) = %v, want %v", x.c, b, x.want)
		}
		if s := Text(x.c); s != x.text {
			t.Errorf("Text(%v) = %q, want %q", x.c, s, x.text)
		}
	}
	for _, c := range wrongCodes() {
		if b, s := Bytes(c), Text(c); len(b) != 0 || s != "" {
			t.Errorf("of %v: Bytes %v, Text %q, want nothing", c, b, s)
		}
	}
}

// P1.4: what is written by digits is read again, in capitals or not, with blanks anywhere.
func TestDigitsAgain(t *testing.T) {
	all := make([]byte, 256)
	for c := range all {
		all[c] = byte(c)
	}
	for n := 0; n <= len(all); n++ {
		s := Hex(all[:n])
		wide := strings.Join(strings.Split(s, ""), " \x00\t\n\f\r")
		for _, x := range []string{s, strings.ToLower(s), wide} {
			if b, at, e := UnHex(x); !bytes.Equal(b, all[:n]) || at != len(x) || e != api.OK {
				t.Fatalf("UnHex(%q) = %v, %d, %v", x, b, at, e)
			}
		}
	}
}

// P1.4: a code is its bytes, and its text's digits are those.
func checkCode(t *testing.T, c api.Code) {
	t.Helper()
	b := Bytes(c)
	if got, ok := Val(b); got != c || !ok || len(b) != c.N {
		t.Errorf("Val(Bytes(%v)) = %v, %v", c, got, ok)
	}
	s := Text(c)
	if len(s) != 2*c.N+2 || s[0] != '<' || s[len(s)-1] != '>' {
		t.Errorf("Text(%v) = %q", c, s)
		return
	}
	if d, _, e := UnHex(s[1 : len(s)-1]); !bytes.Equal(d, b) || e != api.OK {
		t.Errorf("UnHex of Text(%v) = %v, %v", c, d, e)
	}
}

// P1.4
func TestCodesAgain(t *testing.T) {
	for _, c := range saneEdges {
		checkCode(t, c)
	}
	for n := 1; n <= 4; n++ {
		end := 1 << (8 * n)
		for v := 0; v < end; v += 1 + end/997 {
			checkCode(t, api.Code{N: n, V: v})
		}
	}
}

// P1.2, P1.3, P1.4 and P1 at bytes of any kind.
func FuzzBytes(f *testing.F) {
	for _, s := range []string{"", "4 a5", "1g", "\xff\x00", "<41>", "FEFF4E2D"} {
		f.Add([]byte(s))
	}
	f.Fuzz(func(t *testing.T, b []byte) {
		if back, n, e := UnHex(Hex(b)); !bytes.Equal(back, b) || n != 2*len(b) || e != api.OK {
			t.Errorf("UnHex(Hex(%v)) = %v, %d, %v", b, back, n, e)
		}
		if c, ok := Val(b); ok {
			if !Sane(c) || !bytes.Equal(Bytes(c), b) {
				t.Errorf("Bytes(Val(%v)) = %v", b, Bytes(c))
			}
		} else if len(b) >= 1 && len(b) <= 4 {
			t.Errorf("Val(%v) is none", b)
		}
		want, at, e := plainUnHex(string(b))
		if got, at1, e1 := UnHex(string(b)); !bytes.Equal(got, want) || at1 != at || e1 != e {
			t.Errorf("UnHex(%q) = %v, %d, %v, want %v, %d, %v", b, got, at1, e1, want, at, e)
		}
	})
}

// plainUnHex says P1.2 in another way: the digits first, then bytes of two each.
func plainUnHex(s string) ([]byte, int, api.Errno) {
	var values []byte
	for at := range len(s) {
		v, ok := plainDigit(int(s[at]))
		if ok {
			values = append(values, byte(v))
		} else if !plainWhite(int(s[at])) {
			return nil, at, api.ErrHex
		}
	}
	if len(values)%2 == 1 {
		values = append(values, 0)
	}
	var out []byte
	for i := 0; i < len(values); i += 2 {
		out = append(out, values[i]*16+values[i+1])
	}
	return out, len(s), api.OK
}

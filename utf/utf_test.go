package utf

import (
	"bytes"
	"math"
	"slices"
	"testing"
)

// edges are the numbers at which a promise changes what it says.
var edges = []int{0, 0x7F, 0x80, 0x7FF, 0x800, 0xD7FF, 0xD800, 0xDBFF, 0xDC00, 0xDFFF, 0xE000, 0xFFFD, 0xFFFF, 0x10000, 0x10FFFF}

// oddInts are numbers far out, some of which would be good ones if they were cut to 8, 16, 21 or 32 bits.
var oddInts = []int{
	math.MinInt, math.MinInt + 65, -1 << 32, -1<<32 + 65, -1 << 31, -0x10000, -0x110000, -65, -1,
	0x110000, 0x110041, 0x1FFFFF, 0x200041, 1 << 31, 1<<32 - 1, 1 << 32, 1<<32 + 65, 1<<32 + 0xD800, 1<<32 + 0x1F600, math.MaxInt - 1, math.MaxInt,
}

// numbers are edges, one beside each, and oddInts.
func numbers() []int {
	l := slices.Clone(oddInts)
	for _, r := range edges {
		l = append(l, r-1, r, r+1)
	}
	return l
}

// plainGood is P2.1's first words.
func plainGood(r int) bool {
	return 0 <= r && r <= 0x10FFFF && !(0xD800 <= r && r <= 0xDFFF)
}

// plainRepl is r, or Repl of what is no scalar value.
func plainRepl(r int) int {
	if plainGood(r) {
		return r
	}
	return 0xFFFD
}

// plainEnc16 is P2.1 of one number.
func plainEnc16(r int) []int {
	r = plainRepl(r)
	if r <= 0xFFFF {
		return []int{r}
	}
	return []int{0xD800 + (r-0x10000)/0x400, 0xDC00 + (r-0x10000)%0x400}
}

// plainDec16 is P2.2: the first value of u, and what is behind it.
func plainDec16(u []int) (int, []int) {
	x := u[0]
	high, low := 0xD800 <= x && x <= 0xDBFF, 0xDC00 <= x && x <= 0xDFFF
	if high && len(u) >= 2 && 0xDC00 <= u[1] && u[1] <= 0xDFFF {
		return 0x10000 + (x-0xD800)*0x400 + (u[1] - 0xDC00), u[2:]
	}
	if high || low || x < 0 || x > 0xFFFF {
		return 0xFFFD, u[1:]
	}
	return x, u[1:]
}

// plainForm is P2.3's form of one number.
func plainForm(r int) []byte {
	r = plainRepl(r)
	switch {
	case r < 0x80:
		return []byte{byte(r)}
	case r < 0x800:
		return []byte{byte(0xC0 + r/0x40), byte(0x80 + r%0x40)}
	case r < 0x10000:
		return []byte{byte(0xE0 + r/0x1000), byte(0x80 + r/0x40%0x40), byte(0x80 + r%0x40)}
	}
	return []byte{byte(0xF0 + r/0x40000), byte(0x80 + r/0x1000%0x40), byte(0x80 + r/0x40%0x40), byte(0x80 + r%0x40)}
}

// plainRunes is P2.3's reading: a value is one whose form stands there; there is at most one for each number of bytes.
func plainRunes(b []byte) (l []int, whole bool) {
	whole = true
	for len(b) > 0 {
		r, n := 0xFFFD, 0
		for k := 1; k <= min(4, len(b)) && n == 0; k++ {
			if v := plainValue(b[:k]); plainGood(v) && bytes.Equal(plainForm(v), b[:k]) {
				r, n = v, k
			}
		}
		if n == 0 {
			whole, n = false, 1
		}
		l, b = append(l, r), b[n:]
	}
	return l, whole
}

// plainValue is what b's bits tell, if b is a form at all.
func plainValue(b []byte) int {
	v := int(b[0])
	if len(b) > 1 {
		v &= 0xFF >> (len(b) + 1)
	}
	for _, c := range b[1:] {
		v = v<<6 | int(c&0x3F)
	}
	return v
}

// P2.1
func TestGood(t *testing.T) {
	for _, r := range numbers() {
		if got := Good(r); got != plainGood(r) {
			t.Errorf("Good(%#x) = %v", r, got)
		}
	}
	for r, want := range map[int]bool{
		-1: false, 0: true, 0xD7FF: true, 0xD800: false, 0xDBFF: false, 0xDC00: false, 0xDFFF: false,
		0xE000: true, 0xFFFF: true, 0x10000: true, 0x10FFFF: true, 0x110000: false, 1 << 32: false,
	} {
		if Good(r) != want {
			t.Errorf("Good(%#x) = %v", r, !want)
		}
	}
}

// P2.1
func TestEnc16(t *testing.T) {
	for _, x := range []struct{ l, want []int }{
		{nil, nil},
		{[]int{}, nil},
		{[]int{0x1F600}, []int{0xD83D, 0xDE00}},
		{[]int{0, 0x41, 0xD7FF, 0xE000, 0xFFFF}, []int{0, 0x41, 0xD7FF, 0xE000, 0xFFFF}},
		{[]int{0x10000, 0x103FF, 0x10400}, []int{0xD800, 0xDC00, 0xD800, 0xDFFF, 0xD801, 0xDC00}},
		{[]int{0x10FBFF, 0x10FC00, 0x10FFFF}, []int{0xDBFE, 0xDFFF, 0xDBFF, 0xDC00, 0xDBFF, 0xDFFF}},
		{[]int{0xD83D, 0xDE00}, []int{0xFFFD, 0xFFFD}}, // units are no values
		{[]int{65, 0xD800, -1, 66, 0x110000}, []int{65, 0xFFFD, 0xFFFD, 66, 0xFFFD}},
	} {
		if got := Enc16(x.l); !slices.Equal(got, x.want) {
			t.Errorf("Enc16(%x) = %x, want %x", x.l, got, x.want)
		}
	}
	var want []int
	for _, r := range numbers() {
		want = append(want, plainEnc16(r)...)
		if got := Enc16([]int{r}); !slices.Equal(got, plainEnc16(r)) {
			t.Errorf("Enc16 of %#x = %x, want %x", r, got, plainEnc16(r))
		}
	}
	if got := Enc16(numbers()); !slices.Equal(got, want) {
		t.Errorf("Enc16 of all = %x, want %x", got, want)
	}
}

// P2.2
func TestDec16(t *testing.T) {
	for _, x := range []struct{ u, want []int }{
		{nil, nil},
		{[]int{}, nil},
		{[]int{0xD83D, 0xDE00}, []int{0x1F600}},
		{[]int{0xD800, 0xDC00, 0xDBFF, 0xDFFF}, []int{0x10000, 0x10FFFF}},
		{[]int{0, 0xD7FF, 0xE000, 0xFFFF}, []int{0, 0xD7FF, 0xE000, 0xFFFF}},
		{[]int{0xD800}, []int{0xFFFD}}, // a high one alone
		{[]int{0xDBFF, 65}, []int{0xFFFD, 65}},
		{[]int{65, 0xD800}, []int{65, 0xFFFD}},
		{[]int{0xDC00}, []int{0xFFFD}}, // a low one alone
		{[]int{0xDFFF, 65}, []int{0xFFFD, 65}},
		{[]int{0xDC00, 0xD800}, []int{0xFFFD, 0xFFFD}},
		{[]int{0xD800, 0xD800, 0xDC00}, []int{0xFFFD, 0x10000}},
		{[]int{0xD800, 0xDC00, 0xDC00}, []int{0x10000, 0xFFFD}},
		{[]int{0xD800, 65, 0xDC00}, []int{0xFFFD, 65, 0xFFFD}},
		{[]int{0xD800, 0xE000}, []int{0xFFFD, 0xE000}},
		{[]int{0xD7FF, 0xDC00}, []int{0xD7FF, 0xFFFD}},
		{[]int{0x10000, 0x1F600, 0x10FFFF, -1, 65}, []int{0xFFFD, 0xFFFD, 0xFFFD, 0xFFFD, 65}}, // values that are no units
		{[]int{0xD800, 0x1DC00}, []int{0xFFFD, 0xFFFD}},
		{[]int{0x1D800, 0xDC00}, []int{0xFFFD, 0xFFFD}},
	} {
		if got := Dec16(x.u); !slices.Equal(got, x.want) {
			t.Errorf("Dec16(%x) = %x, want %x", x.u, got, x.want)
		}
	}
}

// P2.2: each two and three of the numbers, one behind the other.
func TestDec16OfAll(t *testing.T) {
	l := numbers()
	for _, a := range l {
		for _, b := range l {
			checkDec16(t, []int{a, b})
			for _, c := range []int{65, 0xD83D, 0xDE00, 0x10000} {
				checkDec16(t, []int{a, b, c})
			}
		}
	}
}

func checkDec16(t *testing.T, u []int) {
	t.Helper()
	var want []int
	for rest := u; len(rest) > 0; {
		var r int
		r, rest = plainDec16(rest)
		want = append(want, r)
	}
	if got := Dec16(u); !slices.Equal(got, want) {
		t.Fatalf("Dec16(%x) = %x, want %x", u, got, want)
	}
}

// P2.2
func TestBytes(t *testing.T) {
	for _, x := range []struct {
		u    []int
		want []byte
	}{
		{nil, nil},
		{[]int{}, nil},
		{[]int{0x4E2D, 65, 0, 0xFFFF}, []byte{0x4E, 0x2D, 0, 65, 0, 0, 0xFF, 0xFF}},
		{[]int{0xFF, 0x100, 0xFF00}, []byte{0, 0xFF, 1, 0, 0xFF, 0}},
		{[]int{0xD800, 0xDC00, 0xDFFF}, []byte{0xD8, 0, 0xDC, 0, 0xDF, 0xFF}}, // units, though no values
		{[]int{0x10000, -1, 0x10041, 65}, []byte{0xFF, 0xFD, 0xFF, 0xFD, 0xFF, 0xFD, 0, 65}},
	} {
		if got := Bytes(x.u); !bytes.Equal(got, x.want) {
			t.Errorf("Bytes(%x) = %x, want %x", x.u, got, x.want)
		}
	}
	for _, r := range numbers() {
		want := []byte{0xFF, 0xFD}
		if 0 <= r && r <= 0xFFFF {
			want = []byte{byte(r / 256), byte(r % 256)}
		}
		if got := Bytes([]int{r}); !bytes.Equal(got, want) {
			t.Errorf("Bytes of %#x = %x, want %x", r, got, want)
		}
	}
}

// P2.2
func TestUnits(t *testing.T) {
	for _, x := range []struct {
		b    []byte
		want []int
		odd  bool
	}{
		{nil, nil, false},
		{[]byte{}, nil, false},
		{[]byte{7}, nil, true},
		{[]byte{1, 2}, []int{0x102}, false},
		{[]byte{1, 2, 3}, []int{0x102}, true},
		{[]byte{0, 0xFF, 0xFF, 0}, []int{0xFF, 0xFF00}, false},
		{[]byte{0xFF, 0xFF, 0xD8, 0, 0xDC}, []int{0xFFFF, 0xD800}, true},
		{[]byte{0xFE, 0xFF, 0x4E, 0x2D}, []int{0xFEFF, 0x4E2D}, false},
	} {
		if got, odd := Units(x.b); !slices.Equal(got, x.want) || odd != x.odd {
			t.Errorf("Units(%x) = %x, %v, want %x, %v", x.b, got, odd, x.want, x.odd)
		}
	}
}

// P2.3
func TestText(t *testing.T) {
	for _, x := range []struct {
		l    []int
		want string
	}{
		{nil, ""},
		{[]int{}, ""},
		{[]int{0, 65, 0x7F}, "\x00A\x7F"},
		{[]int{0x80, 0x7FF}, "\xC2\x80\xDF\xBF"},
		{[]int{0x800, 0xD7FF, 0xE000, 0xFFFF}, "\xE0\xA0\x80\xED\x9F\xBF\xEE\x80\x80\xEF\xBF\xBF"},
		{[]int{0x10000, 0x1F600, 0x10FFFF}, "\xF0\x90\x80\x80\xF0\x9F\x98\x80\xF4\x8F\xBF\xBF"},
		{[]int{0xD800, 65, -1, 0x110000}, "\xEF\xBF\xBDA\xEF\xBF\xBD\xEF\xBF\xBD"},
	} {
		if got := Text(x.l); got != x.want {
			t.Errorf("Text(%x) = %q, want %q", x.l, got, x.want)
		}
	}
	var want []byte
	for _, r := range numbers() {
		want = append(want, plainForm(r)...)
		if got := Text([]int{r}); got != string(plainForm(r)) {
			t.Errorf("Text of %#x = %q, want %q", r, got, plainForm(r))
		}
	}
	if got := Text(numbers()); got != string(want) {
		t.Errorf("Text of all = %q, want %q", got, want)
	}
}

// repl is n times Repl.
func repl(n int) []int { return slices.Repeat([]int{0xFFFD}, n) }

// P2.3
func TestRunesAndWhole(t *testing.T) {
	for _, x := range []struct {
		s     string
		want  []int
		whole bool
	}{
		{"", nil, true},
		{"a\u00e9\u20ac\U0001F600", []int{97, 0xE9, 0x20AC, 0x1F600}, true},
		{"\x00\x7F", []int{0, 0x7F}, true},
		{"\uFFFD", repl(1), true}, // Repl's own form is one
		{"\uFFFD\uFFFDa", []int{0xFFFD, 0xFFFD, 97}, true},
		{"\xEF\xBF", repl(2), false},
		{"\uFFFD\xEF\xBF", repl(3), false},
		{"\xEF\uFFFD", repl(2), false},
		{"\x80", repl(1), false}, {"\xBF", repl(1), false}, {"\xFF", repl(1), false}, {"\xFE", repl(1), false},
		{"a\x80b", []int{97, 0xFFFD, 98}, false},
		{"\xC0\x80", repl(2), false}, {"\xC1\xBF", repl(2), false}, // not the shortest
		{"\xE0\x80\x80", repl(3), false}, {"\xE0\x9F\xBF", repl(3), false},
		{"\xF0\x80\x80\x80", repl(4), false}, {"\xF0\x8F\xBF\xBF", repl(4), false},
		{"\xED\xA0\x80", repl(3), false}, {"\xED\xBF\xBF", repl(3), false}, // D800, DFFF
		{"\xF4\x90\x80\x80", repl(4), false}, {"\xF5\x80\x80\x80", repl(4), false}, {"\xF8\x88\x80\x80\x80", repl(5), false}, // above MaxRune
		{"\xC2", repl(1), false}, {"\xE2\x82", repl(2), false}, {"\xF0\x9F\x98", repl(3), false}, // end too early
		{"\xC2a", []int{0xFFFD, 97}, false}, {"\xE2\x82a", []int{0xFFFD, 0xFFFD, 97}, false},
		{"\xF0\x9F\x98a", []int{0xFFFD, 0xFFFD, 0xFFFD, 97}, false},
		{"\xE2\xE2\x82\xAC", []int{0xFFFD, 0x20AC}, false},
		{"\xC3\xA9\xA9", []int{0xE9, 0xFFFD}, false},
		{"whole\xC3", []int{'w', 'h', 'o', 'l', 'e', 0xFFFD}, false},
	} {
		if got := Runes(x.s); !slices.Equal(got, x.want) {
			t.Errorf("Runes(%q) = %x, want %x", x.s, got, x.want)
		}
		if got := Whole(x.s); got != x.whole {
			t.Errorf("Whole(%q) = %v", x.s, got)
		}
	}
}

// checkRead holds Runes and Whole against the plain reading.
func checkRead(t *testing.T, b []byte) {
	t.Helper()
	want, whole := plainRunes(b)
	if got := Runes(string(b)); !slices.Equal(got, want) {
		t.Fatalf("Runes(%q) = %x, want %x", b, got, want)
	}
	if got := Whole(string(b)); got != whole {
		t.Fatalf("Whole(%q) = %v", b, got)
	}
}

// P2.3: all texts of one and two bytes; of three and four, those of bytes at which forms change.
func TestReadOfAll(t *testing.T) {
	for a := range 256 {
		checkRead(t, []byte{byte(a)})
		for b := range 256 {
			checkRead(t, []byte{byte(a), byte(b)})
		}
	}
	few := []byte{0, 0x41, 0x7F, 0x80, 0x8F, 0x90, 0x9F, 0xA0, 0xBD, 0xBF, 0xC0, 0xC1, 0xC2, 0xDF, 0xE0, 0xE1, 0xEC, 0xED, 0xEE, 0xEF, 0xF0, 0xF1, 0xF3, 0xF4, 0xF5, 0xFF}
	for _, a := range few {
		for _, b := range few {
			for _, c := range few {
				checkRead(t, []byte{a, b, c})
				for _, d := range few {
					checkRead(t, []byte{a, b, c, d})
				}
			}
		}
	}
}

// P2.4: every scalar value is read again, from units, from their bytes and from UTF-8.
func TestAgain(t *testing.T) {
	for r := -1; r <= 0x110000; r++ {
		l, want := []int{r}, []int{plainRepl(r)}
		u := Enc16(l)
		if got := Dec16(u); !slices.Equal(got, want) {
			t.Fatalf("Dec16(Enc16(%x)) = %x", l, got)
		}
		if got, odd := Units(Bytes(u)); !slices.Equal(got, u) || odd {
			t.Fatalf("Units(Bytes(%x)) = %x, %v", u, got, odd)
		}
		s := Text(l)
		if got := Runes(s); !slices.Equal(got, want) {
			t.Fatalf("Runes(Text(%x)) = %x", l, got)
		}
		if !Whole(s) {
			t.Fatalf("Whole(%q) = false", s)
		}
	}
}

// P2.4: every unit is read again from its bytes, with the same ones behind it.
func TestUnitsAgain(t *testing.T) {
	all := make([]int, 0x10000)
	for u := range all {
		all[u] = u
	}
	b := Bytes(all)
	if got, odd := Units(b); !slices.Equal(got, all) || odd {
		t.Error("Units(Bytes) are not all units")
	}
	if got, odd := Units(b[:len(b)-1]); !slices.Equal(got, all[:len(all)-1]) || !odd {
		t.Error("Units(Bytes) with the last byte cut off are not all but one")
	}
}

// What is handed in stays as it is (R3).
func TestArgumentsStay(t *testing.T) {
	l := []int{65, -1, 0xD83D, 0xDE00, 0x1F600, 0x110000}
	b := []byte{1, 2, 3}
	l1, b1 := slices.Clone(l), slices.Clone(b)
	Enc16(l)
	Dec16(l)
	Bytes(l)
	Text(l)
	Units(b)
	if !slices.Equal(l, l1) || !bytes.Equal(b, b1) {
		t.Error("arguments were changed:", l, b)
	}
}

// P2.2, P2.3, P2.4 and P1 at bytes of any kind.
func FuzzBytes(f *testing.F) {
	for _, s := range []string{"", "a", "\uFFFD", "\xD8\x3D\xDE\x00", "\xF0\x9F\x98\x80", "\xED\xA0\x80\xFF"} {
		f.Add([]byte(s))
	}
	f.Fuzz(func(t *testing.T, b []byte) {
		checkRead(t, b)
		u, odd := Units(b)
		if back := Bytes(u); !bytes.Equal(back, b[:len(b)/2*2]) || odd != (len(b)%2 == 1) {
			t.Fatalf("Bytes(Units(%x)) = %x, %v", b, back, odd)
		}
		checkDec16(t, u)
		for _, l := range [][]int{Dec16(u), Runes(string(b))} {
			if back := Dec16(Enc16(l)); !slices.Equal(back, l) {
				t.Fatalf("Dec16(Enc16(%x)) = %x", l, back)
			}
			if back := Runes(Text(l)); !slices.Equal(back, l) || !Whole(Text(l)) {
				t.Fatalf("Runes(Text(%x)) = %x", l, back)
			}
		}
	})
}

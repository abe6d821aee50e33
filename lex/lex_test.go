package lex

import (
	"math"
	"math/big"
	"regexp"
	"strings"
	"testing"

	"hornbook/api"
)

// The classes by their bytes, as the chapter lists them.
const (
	plainBlanks = "\x00\t\n\f\r "
	plainDelims = "()<>[]{}/%"
)

// oddInts are numbers that are no bytes, some of which would be a blank or a delimiter if they were cut to 8, 16 or 32 bits.
var oddInts = []int{
	math.MinInt, math.MinInt + '/', -1 << 32, -1<<32 + '%', -65536, -256, -256 + ' ', -'(', -1,
	256, 256 + '\n', 256 + '(', 256 + '%', 65536, 65536 + ' ', 1 << 32, 1<<32 + '/', 1<<32 + 9, math.MaxInt - 1, math.MaxInt,
}

func plainClass(c int) int {
	if 0 <= c && c <= 255 && strings.IndexByte(plainBlanks, byte(c)) >= 0 {
		return Blank
	}
	if 0 <= c && c <= 255 && strings.IndexByte(plainDelims, byte(c)) >= 0 {
		return Delim
	}
	return Regular
}

// plainAt is a place of s, or its end.
func plainAt(s string, at int) int {
	if at < 0 {
		return 0
	}
	if at > len(s) {
		return len(s)
	}
	return at
}

// plainSkip goes byte by byte, and keeps whether it is inside of a remark.
func plainSkip(s string, at int) int {
	inside := false
	for at = plainAt(s, at); at < len(s); at++ {
		c := s[at]
		switch {
		case c == 10 || c == 13:
			inside = false
		case inside || plainClass(int(c)) == Blank:
		case c == '%':
			inside = true
		default:
			return at
		}
	}
	return at
}

func plainWord(s string, at int) (string, int) {
	at = plainAt(s, at)
	var w []byte
	for at < len(s) && plainClass(int(s[at])) == Regular {
		w = append(w, s[at])
		at++
	}
	return string(w), at
}

var (
	intForm  = regexp.MustCompile(`\A[+-]?[0-9]+\z`)
	nameForm = regexp.MustCompile(`(?s)#[0-9A-Fa-f][0-9A-Fa-f]`)
)

// plainInt has numbers of any size.
func plainInt(s string) (int, api.Errno) {
	if !intForm.MatchString(s) {
		return 0, api.ErrForm
	}
	n, _ := new(big.Int).SetString(s, 10)
	if n.Cmp(big.NewInt(-1<<31)) < 0 || n.Cmp(big.NewInt(1<<31-1)) > 0 {
		return 0, api.ErrBig
	}
	return int(n.Int64()), api.OK
}

func plainName(s string) string {
	return string(nameForm.ReplaceAllFunc([]byte(s), func(b []byte) []byte {
		n, _ := new(big.Int).SetString(string(b[1:]), 16)
		return []byte{byte(n.Int64())}
	}))
}

func plainWrite(s string) string {
	const digits = "0123456789ABCDEF"
	out := ""
	for i := 0; i < len(s); i++ {
		c := s[i]
		if plainClass(int(c)) != Regular || c == '#' || c < 33 || c > 126 {
			out += "#" + digits[c/16:c/16+1] + digits[c%16:c%16+1]
		} else {
			out += s[i : i+1]
		}
	}
	return out
}

// checkPlaces holds Skip and Word at every place of s, and beside it, against the plain ones.
func checkPlaces(t *testing.T, s string) {
	t.Helper()
	places := []int{math.MinInt, -len(s), math.MaxInt, 1 << 32}
	for at := -2; at <= len(s)+2; at++ {
		places = append(places, at)
	}
	for _, at := range places {
		if got, want := Skip(s, at), plainSkip(s, at); got != want {
			t.Fatalf("Skip(%q, %d) = %d, want %d", s, at, got, want)
		}
		w, n := Word(s, at)
		if want, next := plainWord(s, at); w != want || n != next {
			t.Fatalf("Word(%q, %d) = %q, %d, want %q, %d", s, at, w, n, want, next)
		}
	}
}

func checkInt(t *testing.T, s string) {
	t.Helper()
	n, e := Int(s)
	if want, err := plainInt(s); n != want || e != err {
		t.Fatalf("Int(%q) = %d, %d, want %d, %d", s, n, e, want, err)
	}
}

// checkNames holds Name and Write against the plain ones, and P3.4.
func checkNames(t *testing.T, s string) {
	t.Helper()
	if got, want := Name(s), plainName(s); got != want {
		t.Fatalf("Name(%q) = %q, want %q", s, got, want)
	}
	w := Write(s)
	if want := plainWrite(s); w != want {
		t.Fatalf("Write(%q) = %q, want %q", s, w, want)
	}
	if got := Name(w); got != s {
		t.Fatalf("Name(Write(%q)) = %q", s, got)
	}
	if got, n := Word(w, 0); got != w || n != len(w) {
		t.Fatalf("Word(%q, 0) = %q, %d: what is written is not one word", w, got, n)
	}
}

// P3.1: each byte, and so each blank and delimiter and one beside it; numbers that are no byte.
func TestClass(t *testing.T) {
	for c := -600; c < 1200; c++ {
		if got, want := Class(c), plainClass(c); got != want {
			t.Errorf("Class(%d) = %d, want %d", c, got, want)
		}
	}
	for _, c := range oddInts {
		if got := Class(c); got != Regular {
			t.Errorf("Class(%d) = %d", c, got)
		}
	}
	if Regular != 0 || Blank != 1 || Delim != 2 {
		t.Error("the classes are not 0, 1 and 2")
	}
}

// P3.1
func TestSkip(t *testing.T) {
	for _, x := range []struct {
		s        string
		at, want int
	}{
		{" % a\n b", 0, 6},
		{"a b", 0, 0}, {"a b", 1, 2}, {"a b", 2, 2}, {"a b", 3, 3},
		{" a", -1, 1}, {" a", math.MinInt, 1}, {" a", 3, 2}, {" a", math.MaxInt, 2}, // at is brought to s
		{"", 0, 0}, {"", -1, 0}, {"", 1, 0},
		{"% a\nb", 0, 4}, {"% a\rb", 0, 4}, {"% a\r\nb", 0, 5}, {"% a\n\rb", 0, 5}, // a remark's ends
		{"% a", 0, 3}, {"%", 0, 1}, {"%\n", 0, 2}, {"%\r", 0, 2}, {"%\nb", 0, 2},
		{"% \x00\t\f(b", 0, 7}, {"%\va\u2028\u0085b", 0, len("%\va\u2028\u0085b")}, // what ends none
		{"%% a % b\nc", 0, 9}, {"%a\n%b\r%c\n d", 0, 10}, {" %a\n\n %b", 0, 8},
		{"%a b\nc", 1, 1}, {"%a b\nc", 2, 3}, {"%a b\nc", 4, 5}, // from inside of one
		{"%a %b\nc", 2, 6},
		{"\x00\t\n\f\r x", 0, 6}, {"\vx", 0, 0}, {"\xa0", 0, 0}, {"\u00a0x", 0, 0},
		{" (", 0, 1}, {" )", 0, 1}, {" /%", 0, 1}, {"\n<%\n", 0, 1},
	} {
		if got := Skip(x.s, x.at); got != x.want {
			t.Errorf("Skip(%q, %d) = %d, want %d", x.s, x.at, got, x.want)
		}
	}
}

// P3.1
func TestWord(t *testing.T) {
	for _, x := range []struct {
		s    string
		at   int
		want string
		next int
	}{
		{"ab cd", 0, "ab", 2}, {"ab cd", 1, "b", 2}, {"ab cd", 2, "", 2}, {"ab cd", 3, "cd", 5}, {"ab cd", 5, "", 5},
		{"ab", -1, "ab", 2}, {"ab", math.MinInt, "ab", 2}, {"ab", 3, "", 2}, {"ab", math.MaxInt, "", 2},
		{"", 0, "", 0}, {"", -1, "", 0}, {"", 1, "", 0},
		{"%ab", 0, "", 0}, {"%ab", 1, "ab", 3}, {"a%b", 0, "a", 1}, // remarks have no say in it
		{"-1.5#20\"'!~*\\;", 0, "-1.5#20\"'!~*\\;", 14},
		{"\x01\v\x7f\x80\xff\xa0 ", 0, "\x01\v\x7f\x80\xff\xa0", 6}, // regular, though not seen
	} {
		if w, n := Word(x.s, x.at); w != x.want || n != x.next {
			t.Errorf("Word(%q, %d) = %q, %d, want %q, %d", x.s, x.at, w, n, x.want, x.next)
		}
	}
	for c := range 256 {
		s := "a" + string([]byte{byte(c)}) + "b"
		checkPlaces(t, s)
	}
}

// P3.1: all texts of up to six of the bytes that matter, at all places.
func TestPlacesOfAll(t *testing.T) {
	few := "% \n\ra("
	var all func(s string)
	all = func(s string) {
		checkPlaces(t, s)
		if len(s) < 6 {
			for i := range few {
				all(s + few[i:i+1])
			}
		}
	}
	all("")
}

// P3.2
func TestInt(t *testing.T) {
	for _, x := range []struct {
		s string
		n int
		e api.Errno
	}{
		{"0", 0, api.OK}, {"7", 7, api.OK}, {"+7", 7, api.OK}, {"-7", -7, api.OK}, {"1234567890", 1234567890, api.OK},
		{"-0", 0, api.OK}, {"+0", 0, api.OK}, {"00", 0, api.OK}, {"007", 7, api.OK}, {"-007", -7, api.OK}, {"+0010", 10, api.OK}, {"010", 10, api.OK},
		{"2147483646", 2147483646, api.OK}, {"2147483647", 2147483647, api.OK}, {"2147483648", 0, api.ErrBig}, {"2147483649", 0, api.ErrBig},
		{"+2147483647", 2147483647, api.OK}, {"+2147483648", 0, api.ErrBig},
		{"-2147483647", -2147483647, api.OK}, {"-2147483648", -2147483648, api.OK}, {"-2147483649", 0, api.ErrBig}, {"-2147483650", 0, api.ErrBig},
		{"00000000000000000000002147483647", 2147483647, api.OK}, {"-00000000000000000000002147483648", -2147483648, api.OK},
		{"00000000000000000000002147483648", 0, api.ErrBig}, {"-00000000000000000000002147483649", 0, api.ErrBig},
		{"4294967296", 0, api.ErrBig}, {"4294967297", 0, api.ErrBig}, {"-4294967297", 0, api.ErrBig}, // would wrap round to 0, 1, -1 of 32 bits
		{"18446744073709551616", 0, api.ErrBig}, {"18446744073709551617", 0, api.ErrBig}, {"-18446744073709551617", 0, api.ErrBig}, // and of 64
		{"9223372036854775807", 0, api.ErrBig}, {"9223372036854775808", 0, api.ErrBig}, {"-9223372036854775809", 0, api.ErrBig},
		{"21474836470", 0, api.ErrBig}, {"-21474836480", 0, api.ErrBig},
		{"", 0, api.ErrForm}, {"+", 0, api.ErrForm}, {"-", 0, api.ErrForm}, {"a", 0, api.ErrForm},
		{"++1", 0, api.ErrForm}, {"--1", 0, api.ErrForm}, {"+-1", 0, api.ErrForm}, {"-+1", 0, api.ErrForm}, {"+-", 0, api.ErrForm},
		{"1a", 0, api.ErrForm}, {"1 ", 0, api.ErrForm}, {" 1", 0, api.ErrForm}, {"- 1", 0, api.ErrForm}, {"1\n", 0, api.ErrForm}, {"1-", 0, api.ErrForm}, {"1+1", 0, api.ErrForm},
		{"1.", 0, api.ErrForm}, {".1", 0, api.ErrForm}, {"1e3", 0, api.ErrForm}, {"0x10", 0, api.ErrForm}, {"0b1", 0, api.ErrForm}, {"1_000", 0, api.ErrForm}, {"1,000", 0, api.ErrForm},
		{"1/", 0, api.ErrForm}, {"1:", 0, api.ErrForm}, {"/", 0, api.ErrForm}, {":", 0, api.ErrForm}, // beside the digits
		{"1\x00", 0, api.ErrForm}, {"\u0661", 0, api.ErrForm}, {"\uff11", 0, api.ErrForm}, {"\u22121", 0, api.ErrForm}, {"\xb1", 0, api.ErrForm},
		{"99999999999999999999x", 0, api.ErrForm}, {"-99999999999999999999-", 0, api.ErrForm}, // too great, but of another form
	} {
		if n, e := Int(x.s); n != x.n || e != x.e {
			t.Errorf("Int(%q) = %d, %d, want %d, %d", x.s, n, e, x.n, x.e)
		}
	}
}

// P3.2: numbers of very many digits; numbers around the edges; texts of few bytes.
func TestIntOfMany(t *testing.T) {
	for n := 1; n <= 300; n++ {
		for _, sign := range []string{"", "+", "-"} {
			for _, d := range []string{"0", "1", "9"} {
				s := sign + strings.Repeat(d, n)
				checkInt(t, s)
				checkInt(t, s+".")
			}
			checkInt(t, sign+strings.Repeat("0", n)+"2147483648")
			checkInt(t, sign+"1"+strings.Repeat("0", n))
		}
	}
	if n, e := Int(strings.Repeat("8", 1<<20)); n != 0 || e != api.ErrBig {
		t.Error("a million digits:", n, e)
	}
	if n, e := Int(strings.Repeat("0", 1<<20) + "5"); n != 5 || e != api.OK {
		t.Error("a million leading ones:", n, e)
	}
	for _, edge := range []int64{0, 1 << 31, -1 << 31, 1 << 32, -1 << 32} {
		for n := edge - 1000; n <= edge+1000; n++ {
			checkInt(t, big.NewInt(n).String())
		}
	}
	few := "+-019/: "
	for _, a := range few {
		for _, b := range few {
			for _, c := range few {
				checkInt(t, string([]rune{a, b, c}))
			}
		}
	}
	for c := range 256 {
		checkInt(t, string([]byte{byte(c)}))
		checkInt(t, string([]byte{'1', byte(c)}))
		checkInt(t, string([]byte{byte(c), '1'}))
	}
}

// P3.3
func TestName(t *testing.T) {
	for _, x := range []struct{ s, want string }{
		{"", ""}, {"abc", "abc"},
		{"a#20b", "a b"}, {"#41", "A"}, {"#41#42", "AB"}, {"#00", "\x00"}, {"#ff", "\xff"}, {"#FF", "\xff"}, {"#fF#Aa", "\xff\xaa"},
		{"#", "#"}, {"a#", "a#"}, {"#4", "#4"}, {"a#4", "a#4"}, {"#4#41", "#4A"}, // at the end, with one digit
		{"#g1", "#g1"}, {"#1g", "#1g"}, {"#G1", "#G1"}, {"#4 1", "#4 1"}, {"#/1", "#/1"}, {"#:1", "#:1"}, {"#@1", "#@1"}, {"#`1", "#`1"},
		{"##", "##"}, {"##41", "#A"}, {"###41", "##A"}, {"#2#41", "#2A"},
		{"#2341", "#41"}, {"#23#34#31", "#41"}, // what is told is not read again
		{"#4142", "A42"}, {"(#28/ \n", "((/ \n"}, {"\u00e9#C3#A9", "\u00e9\u00e9"}, {"\xff\x80#7f", "\xff\x80\x7f"},
		{"#+1", "#+1"}, {"#-1", "#-1"}, {"#0x41", "#0x41"},
	} {
		if got := Name(x.s); got != x.want {
			t.Errorf("Name(%q) = %q, want %q", x.s, got, x.want)
		}
	}
}

// P3.3
func TestWrite(t *testing.T) {
	for _, x := range []struct{ s, want string }{
		{"", ""}, {"Adobe-Japan1-UCS2", "Adobe-Japan1-UCS2"},
		{"a b", "a#20b"}, {" !", "#20!"}, {"~\x7f", "~#7F"}, {"\x1f\x00\v", "#1F#00#0B"}, {"\x80\xff", "#80#FF"}, // 32, 33, 126, 127
		{"#", "#23"}, {"#20", "#2320"}, {"a#", "a#23"},
		{"()<>[]{}/%", "#28#29#3C#3E#5B#5D#7B#7D#2F#25"},
		{"\x00\t\n\f\r ", "#00#09#0A#0C#0D#20"},
		{"\u00e9", "#C3#A9"}, {"\\'\"*+,-.:;=?@^_`|&$", "\\'\"*+,-.:;=?@^_`|&$"},
	} {
		if got := Write(x.s); got != x.want {
			t.Errorf("Write(%q) = %q, want %q", x.s, got, x.want)
		}
	}
}

// P3.3 and P3.4: all names of one and two bytes; behind "#", all of them, and of three some.
func TestNamesOfAll(t *testing.T) {
	for a := range 256 {
		checkNames(t, string([]byte{byte(a)}))
		for b := range 256 {
			checkNames(t, string([]byte{byte(a), byte(b)}))
			checkNames(t, string([]byte{'#', byte(a), byte(b)}))
		}
	}
	few := "#09afgAFG %\x7f\xff"
	for i := range len(few) {
		for j := range len(few) {
			for k := range len(few) {
				for l := range len(few) {
					checkNames(t, "#"+string([]byte{few[i], few[j], few[k], few[l]}))
				}
			}
		}
	}
}

// P3.1 to P3.4 and P1 at bytes of any kind.
func FuzzBytes(f *testing.F) {
	for _, s := range []string{"", "a#20b", " % a\n b", "%\r(", "-2147483648", "+00", "\xff#\x00"} {
		f.Add([]byte(s))
	}
	f.Fuzz(func(t *testing.T, b []byte) {
		s := string(b)
		if len(s) > 200 {
			s = s[:200]
		}
		checkPlaces(t, s)
		checkInt(t, s)
		checkNames(t, s)
	})
}

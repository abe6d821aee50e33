package tok

import (
	"fmt"
	"math"
	"math/big"
	"regexp"
	"slices"
	"strconv"
	"strings"
	"testing"

	"hornbook/api"
)

// The forms of tokens, each at the head of a text; what stands in a Str is taken piece by piece.
var (
	blankForm  = regexp.MustCompile(`\A(?:[\x00\t\n\f\r ]|%[^\n\r]*)+`)
	wordForm   = regexp.MustCompile(`(?s)\A[^\x00\t\n\f\r ()<>\[\]{}/%]*`)
	intForm    = regexp.MustCompile(`\A[+-]?[0-9]+\z`)
	escapeForm = regexp.MustCompile(`(?s)#[0-9A-Fa-f][0-9A-Fa-f]`)
	pieceForm  = regexp.MustCompile(`(?s)\A(?:\\[0-7]{1,3}|\\\r\n|\\.|\r\n|.)`)
)

// plainMarks are the tokens of one form, longer ones ahead of those that they begin with.
var plainMarks = []struct {
	s    string
	kind int
}{{"<<", DOpen}, {">>", DClose}, {"[", Open}, {"]", Close}, {"{", POpen}, {"}", PClose}}

// told is all that Next answers.
type told struct {
	t    api.Tok
	next int
	e    api.Errno
}

func wrong(place int, e api.Errno) told { return told{api.Tok{}, place, e} }

func plainNext(s string, at int) told {
	at = min(max(at, 0), len(s))
	p := at + len(blankForm.FindString(s[at:]))
	rest := s[p:]
	if rest == "" {
		return told{api.Tok{At: p}, p, api.OK}
	}
	for _, m := range plainMarks {
		if strings.HasPrefix(rest, m.s) {
			return told{api.Tok{Kind: m.kind, At: p}, p + len(m.s), api.OK}
		}
	}
	switch rest[0] {
	case '>', ')':
		return wrong(p, api.ErrForm)
	case '<':
		return plainHex(s, p)
	case '(':
		return plainStr(s, p)
	case '/':
		w := wordForm.FindString(rest[1:])
		return told{api.Tok{Kind: Name, At: p, S: plainName(w)}, p + 1 + len(w), api.OK}
	}
	w := wordForm.FindString(rest)
	if !intForm.MatchString(w) {
		return told{api.Tok{Kind: Word, At: p, S: w}, p + len(w), api.OK}
	}
	n, _ := new(big.Int).SetString(w, 10)
	if n.Cmp(big.NewInt(-1<<31)) < 0 || n.Cmp(big.NewInt(1<<31-1)) > 0 {
		return wrong(p, api.ErrBig)
	}
	return told{api.Tok{Kind: Int, At: p, N: int(n.Int64())}, p + len(w), api.OK}
}

func plainName(w string) string {
	return string(escapeForm.ReplaceAllFunc([]byte(w), func(b []byte) []byte { return []byte{plainByte(string(b[1:]), 16)} }))
}

func plainByte(digits string, base int) byte {
	n, err := strconv.ParseInt(digits, base, 32)
	if err != nil {
		panic(err)
	}
	return byte(n % 256)
}

func plainHex(s string, p int) told {
	end := strings.Index(s[p:], ">")
	if end < 0 {
		return wrong(len(s), api.ErrShort)
	}
	digits := ""
	for i := p + 1; i < p+end; i++ {
		switch {
		case strings.IndexByte("\x00\t\n\f\r ", s[i]) >= 0:
		case strings.IndexByte("0123456789ABCDEFabcdef", s[i]) >= 0:
			digits += s[i : i+1]
		default:
			return wrong(i, api.ErrHex)
		}
	}
	if len(digits)%2 == 1 {
		digits += "0"
	}
	var b []byte
	for ; digits != ""; digits = digits[2:] {
		b = append(b, plainByte(digits[:2], 16))
	}
	return told{api.Tok{Kind: Hex, At: p, S: string(b)}, p + end + 1, api.OK}
}

// plainStr keeps the "(" that are open as a list of their places.
func plainStr(s string, p int) told {
	open := []int{p}
	text := ""
	for at := p + 1; at < len(s); {
		piece := pieceForm.FindString(s[at:])
		switch {
		case piece == "\\": // nothing is behind it
		case piece[0] == '\\':
			text += plainEscape(piece[1:])
		case piece == "\r\n" || piece == "\r":
			text += "\n"
		case piece == "(" && len(open) == 32:
			return wrong(at, api.ErrDeep)
		case piece == "(":
			open, text = append(open, at), text+piece
		case piece == ")" && len(open) == 1:
			return told{api.Tok{Kind: Str, At: p, S: text}, at + 1, api.OK}
		case piece == ")":
			open, text = open[:len(open)-1], text+piece
		default:
			text += piece
		}
		at += len(piece)
	}
	return wrong(len(s), api.ErrShort)
}

func plainEscape(s string) string {
	switch s {
	case "n":
		return "\x0A"
	case "r":
		return "\x0D"
	case "t":
		return "\x09"
	case "b":
		return "\x08"
	case "f":
		return "\x0C"
	case "\n", "\r", "\r\n":
		return ""
	}
	if '0' <= s[0] && s[0] <= '7' {
		return string([]byte{plainByte(s, 8)})
	}
	return s
}

func plainShow(t api.Tok) string {
	for _, m := range plainMarks {
		if m.kind == t.Kind {
			return m.s
		}
	}
	switch t.Kind {
	case Int:
		return fmt.Sprint(t.N)
	case Word:
		return t.S
	case Hex:
		return fmt.Sprintf("<%X>", t.S)
	}
	name, str := "/", "("
	for _, c := range []byte(t.S) {
		if c < 33 || c > 126 || strings.IndexByte("()<>[]{}/%#", c) >= 0 {
			name += fmt.Sprintf("#%02X", c)
		} else {
			name += string([]byte{c})
		}
		if c < 32 || c > 126 || strings.IndexByte(`()\`, c) >= 0 {
			str += fmt.Sprintf(`\%03o`, c)
		} else {
			str += string([]byte{c})
		}
	}
	switch t.Kind {
	case Name:
		return name
	case Str:
		return str + ")"
	}
	return ""
}

// plainAll goes on from token to token; the one too many is told where it is met.
func plainAll(s string) ([]api.Tok, int, api.Errno) {
	var l []api.Tok
	at := 0
	for {
		x := plainNext(s, at)
		if x.e != api.OK {
			return nil, x.next, x.e
		}
		if x.t.Kind == End {
			return l, len(s), api.OK
		}
		if l = append(l, x.t); len(l) > 65536 {
			return nil, x.t.At, api.ErrFull
		}
		at = x.next
	}
}

func checkNext(t *testing.T, s string, at int, want told) {
	t.Helper()
	u, next, e := Next(s, at)
	if got := (told{u, next, e}); got != want {
		t.Fatalf("Next(%q, %d) = %+v, want %+v", s, at, got, want)
	}
}

// checkPlaces holds Next at every place of s, and beside it, against the plain one.
func checkPlaces(t *testing.T, s string) {
	t.Helper()
	for at := -1; at <= len(s)+1; at++ {
		checkNext(t, s, at, plainNext(s, at))
	}
}

// checkAll holds All against the plain one, and holds P4.5 of what was read.
func checkAll(t *testing.T, s string) {
	t.Helper()
	l, n, e := All(s)
	want, place, err := plainAll(s)
	if !slices.Equal(l, want) || n != place || e != err {
		t.Fatalf("All(%q) = %+v, %d, %d, want %+v, %d, %d", s, l, n, e, want, place, err)
	}
	checkAgain(t, l)
}

// checkAgain: P4.5, of each token and of all.
func checkAgain(t *testing.T, l []api.Tok) {
	t.Helper()
	var shown []string
	for _, u := range l {
		w := Show(u)
		if want := plainShow(u); w != want {
			t.Fatalf("Show(%+v) = %q, want %q", u, w, want)
		}
		u.At = 0
		checkNext(t, w, 0, told{u, len(w), api.OK})
		shown = append(shown, w)
	}
	w := Text(l)
	if want := strings.Join(shown, " "); w != want {
		t.Fatalf("Text(%+v) = %q, want %q", l, w, want)
	}
	again, n, e := All(w)
	if e != api.OK || n != len(w) || !slices.EqualFunc(again, l, sameButAt) {
		t.Fatalf("All(%q) = %+v, %d, %d: not what was shown, %+v", w, again, n, e, l)
	}
	if got := Text(again); got != w {
		t.Fatalf("Text of what %q is = %q", w, got)
	}
}

func sameButAt(a, b api.Tok) bool {
	a.At, b.At = 0, 0
	return a == b
}

// each calls f with every text of at most n pieces.
func each(pieces []string, n int, f func(string)) {
	var more func(string, int)
	more = func(s string, left int) {
		f(s)
		if left == 0 {
			return
		}
		for _, p := range pieces {
			more(s+p, left-1)
		}
	}
	more("", n)
}

// one is a token of each kind and form, as it is written, and what it is.
var one = []struct {
	s string
	t api.Tok
}{
	{"12", api.Tok{Kind: Int, N: 12}}, {"-5", api.Tok{Kind: Int, N: -5}}, {"+007", api.Tok{Kind: Int, N: 7}}, {"-0", api.Tok{Kind: Int}},
	{"2147483647", api.Tok{Kind: Int, N: 1<<31 - 1}}, {"-2147483648", api.Tok{Kind: Int, N: -1 << 31}},
	{"2147483646", api.Tok{Kind: Int, N: 1<<31 - 2}}, {"-2147483647", api.Tok{Kind: Int, N: -1<<31 + 1}},
	{"/a", api.Tok{Kind: Name, S: "a"}}, {"/", api.Tok{Kind: Name}}, {"/12", api.Tok{Kind: Name, S: "12"}},
	{"/a#20b", api.Tok{Kind: Name, S: "a b"}}, {"/a#2", api.Tok{Kind: Name, S: "a#2"}}, {"/#", api.Tok{Kind: Name, S: "#"}},
	{"/#2f#00", api.Tok{Kind: Name, S: "/\x00"}}, {"/#2341", api.Tok{Kind: Name, S: "#41"}}, {"/a#g0", api.Tok{Kind: Name, S: "a#g0"}},
	{"def", api.Tok{Kind: Word, S: "def"}}, {"1.5", api.Tok{Kind: Word, S: "1.5"}}, {"-", api.Tok{Kind: Word, S: "-"}}, {"+-1", api.Tok{Kind: Word, S: "+-1"}},
	{"1a", api.Tok{Kind: Word, S: "1a"}}, {"a#20", api.Tok{Kind: Word, S: "a#20"}}, {"\\", api.Tok{Kind: Word, S: "\\"}}, {"\x01\xff", api.Tok{Kind: Word, S: "\x01\xff"}},
	{"99999999999a", api.Tok{Kind: Word, S: "99999999999a"}},
	{"<>", api.Tok{Kind: Hex}}, {"<41>", api.Tok{Kind: Hex, S: "A"}}, {"<4aF>", api.Tok{Kind: Hex, S: "\x4A\xF0"}}, {"<5>", api.Tok{Kind: Hex, S: "P"}},
	{"< 4\x00\t\n\f\r1 >", api.Tok{Kind: Hex, S: "A"}}, {"< \n>", api.Tok{Kind: Hex}},
	{"()", api.Tok{Kind: Str}}, {"(x)", api.Tok{Kind: Str, S: "x"}}, {"(a(b)(c(d)))", api.Tok{Kind: Str, S: "a(b)(c(d))"}},
	{"(% <>[]{}/)", api.Tok{Kind: Str, S: "% <>[]{}/"}}, {"(\x00\x7f\x80\xff)", api.Tok{Kind: Str, S: "\x00\x7f\x80\xff"}},
	{"[", api.Tok{Kind: Open}}, {"]", api.Tok{Kind: Close}}, {"<<", api.Tok{Kind: DOpen}}, {">>", api.Tok{Kind: DClose}}, {"{", api.Tok{Kind: POpen}}, {"}", api.Tok{Kind: PClose}},
}

// written are the tokens of one, without what they are.
func written() (l []string) {
	for _, x := range one {
		l = append(l, x.s)
	}
	return l
}

// P4.1: each kind of token alone, at the end, and with another one right behind it.
func TestKinds(t *testing.T) {
	for _, o := range one {
		s, x := o.s, o.t
		checkNext(t, s, 0, told{x, len(s), api.OK})
		x.At = 2
		checkNext(t, " \n"+s, 0, told{x, 2 + len(s), api.OK})
		checkNext(t, "]["+s, 2, told{x, 2 + len(s), api.OK})
		checkNext(t, "%\r"+s+" ", 0, told{x, 2 + len(s), api.OK})
		x.At = 0
		for _, behind := range []string{"[", "]", "{", "}", "/b", "(b)", "<41>", "<<", ">>", "%b", " b", "\x00", ")"} {
			checkNext(t, s+behind, 0, told{x, len(s), api.OK})
		}
		for _, other := range written() {
			checkPlaces(t, s+other)
			checkAll(t, s+other)
			checkAll(t, s+" "+other)
		}
	}
}

func TestKindNumbers(t *testing.T) {
	got := []int{End, Int, Name, Word, Hex, Str, Open, Close, DOpen, DClose, POpen, PClose}
	for i, k := range got {
		if i != k {
			t.Errorf("kind %d is %d", i, k)
		}
	}
}

// P4.1: where at is not a place of s, or stands inside of what would be a remark or a token.
func TestNextAt(t *testing.T) {
	b := api.Tok{Kind: Word, At: 5, S: "b"}
	for _, x := range []struct {
		s    string
		at   int
		want told
	}{
		{"a b", 0, told{api.Tok{Kind: Word, S: "a"}, 1, api.OK}},
		{"a b", -1, told{api.Tok{Kind: Word, S: "a"}, 1, api.OK}},
		{"a b", math.MinInt, told{api.Tok{Kind: Word, S: "a"}, 1, api.OK}},
		{"a b", 2, told{api.Tok{Kind: Word, At: 2, S: "b"}, 3, api.OK}},
		{"a b", 3, told{api.Tok{At: 3}, 3, api.OK}},
		{"a b", 4, told{api.Tok{At: 3}, 3, api.OK}},
		{"a b", math.MaxInt, told{api.Tok{At: 3}, 3, api.OK}},
		{"", 0, told{}}, {"", -1, told{}}, {"", 1, told{}}, {"", math.MaxInt, told{}},
		{" ", 0, told{api.Tok{At: 1}, 1, api.OK}},
		{" % x", 0, told{api.Tok{At: 4}, 4, api.OK}},
		{"%a x\nb", 0, told{b, 6, api.OK}}, // a remark
		{"%a x\nb", 1, told{api.Tok{Kind: Word, At: 1, S: "a"}, 2, api.OK}},
		{"%a x\nb", 2, told{api.Tok{Kind: Word, At: 3, S: "x"}, 4, api.OK}},
		{"%a x\nb", 4, told{b, 6, api.OK}},
		{"%a )\nb", 2, wrong(3, api.ErrForm)},
		{"%a %\nb", 2, told{b, 6, api.OK}},
		{"abc", 1, told{api.Tok{Kind: Word, At: 1, S: "bc"}, 3, api.OK}}, // a token
		{"a12", 1, told{api.Tok{Kind: Int, At: 1, N: 12}, 3, api.OK}},
		{"(a)", 1, told{api.Tok{Kind: Word, At: 1, S: "a"}, 2, api.OK}},
		{"<41>", 1, told{api.Tok{Kind: Int, At: 1, N: 41}, 3, api.OK}},
	} {
		checkNext(t, x.s, x.at, x.want)
		if got := plainNext(x.s, x.at); got != x.want {
			t.Errorf("the plain Next(%q, %d) = %+v", x.s, x.at, got)
		}
	}
}

// P4.1: "<" and ">" alone, doubled and tripled; names without bytes; a Hex, right and wrong.
func TestAngles(t *testing.T) {
	dopen, dclose := api.Tok{Kind: DOpen}, api.Tok{Kind: DClose}
	for _, x := range []struct {
		s    string
		want told
	}{
		{"<", wrong(1, api.ErrShort)}, {"<<", told{dopen, 2, api.OK}}, {"<<<", told{dopen, 2, api.OK}}, {"<<>>", told{dopen, 2, api.OK}}, {"<<41>", told{dopen, 2, api.OK}},
		{">", wrong(0, api.ErrForm)}, {">>", told{dclose, 2, api.OK}}, {">>>", told{dclose, 2, api.OK}}, {"> >", wrong(0, api.ErrForm)}, {">a>", wrong(0, api.ErrForm)}, {" >", wrong(1, api.ErrForm)}, {" ><", wrong(1, api.ErrForm)}, {">\n>", wrong(0, api.ErrForm)},
		{"< <", wrong(3, api.ErrShort)}, {"< <41>", wrong(2, api.ErrHex)}, {"<>>", told{api.Tok{Kind: Hex}, 2, api.OK}}, {"<41>>", told{api.Tok{Kind: Hex, S: "A"}, 4, api.OK}},
		{"<4a", wrong(3, api.ErrShort)}, {" <4a ", wrong(5, api.ErrShort)}, {"<zz", wrong(3, api.ErrShort)}, {"<4(>)", wrong(2, api.ErrHex)}, // there is no ">": that goes first
		{"<4x>", wrong(2, api.ErrHex)}, {"<x>", wrong(1, api.ErrHex)}, {" \n<41 g1>", wrong(6, api.ErrHex)}, {"<41%\n>", wrong(3, api.ErrHex)}, {"<4%>", wrong(2, api.ErrHex)}, {"<4\v>", wrong(2, api.ErrHex)}, {"<41\xff>", wrong(3, api.ErrHex)}, {"<4/>", wrong(2, api.ErrHex)}, {"<4xy>", wrong(2, api.ErrHex)}, {"<@>", wrong(1, api.ErrHex)}, {"<G>", wrong(1, api.ErrHex)}, {"<`>", wrong(1, api.ErrHex)}, {"<:>", wrong(1, api.ErrHex)},
		{"//b", told{api.Tok{Kind: Name}, 1, api.OK}}, {"/ b", told{api.Tok{Kind: Name}, 1, api.OK}}, {"/%b", told{api.Tok{Kind: Name}, 1, api.OK}}, {"/", told{api.Tok{Kind: Name}, 1, api.OK}}, {"/[", told{api.Tok{Kind: Name}, 1, api.OK}},
		{")", wrong(0, api.ErrForm)}, {" ) )", wrong(1, api.ErrForm)}, {"))", wrong(0, api.ErrForm)}, {"%)\n)", wrong(3, api.ErrForm)},
	} {
		checkNext(t, x.s, 0, x.want)
		if got := plainNext(x.s, 0); got != x.want {
			t.Errorf("the plain Next(%q, 0) = %+v", x.s, got)
		}
	}
}

// P4.1: numbers at the edges, and beside them.
func TestNumbers(t *testing.T) {
	for _, x := range []struct {
		s    string
		want told
	}{
		{"2147483647", told{api.Tok{Kind: Int, N: 2147483647}, 10, api.OK}}, {"+2147483647", told{api.Tok{Kind: Int, N: 2147483647}, 11, api.OK}}, {"002147483647", told{api.Tok{Kind: Int, N: 2147483647}, 12, api.OK}},
		{"2147483648", wrong(0, api.ErrBig)}, {" +2147483648 ", wrong(1, api.ErrBig)}, {"2147483646", told{api.Tok{Kind: Int, N: 2147483646}, 10, api.OK}},
		{"-2147483648", told{api.Tok{Kind: Int, N: -2147483648}, 11, api.OK}}, {"-2147483649", wrong(0, api.ErrBig)}, {"-2147483647", told{api.Tok{Kind: Int, N: -2147483647}, 11, api.OK}},
		{"%\n-2147483649]", wrong(2, api.ErrBig)}, {"18446744073709551616", wrong(0, api.ErrBig)}, {"4294967296", wrong(0, api.ErrBig)}, {strings.Repeat("9", 500), wrong(0, api.ErrBig)},
		{"2147483648.", told{api.Tok{Kind: Word, S: "2147483648."}, 11, api.OK}}, {"/2147483648", told{api.Tok{Kind: Name, S: "2147483648"}, 11, api.OK}},
		{"0", told{api.Tok{Kind: Int}, 1, api.OK}}, {"+", told{api.Tok{Kind: Word, S: "+"}, 1, api.OK}}, {"1-", told{api.Tok{Kind: Word, S: "1-"}, 2, api.OK}}, {"1 2", told{api.Tok{Kind: Int, N: 1}, 1, api.OK}},
	} {
		checkNext(t, x.s, 0, x.want)
		if got := plainNext(x.s, 0); got != x.want {
			t.Errorf("the plain Next(%q, 0) = %+v", x.s, got)
		}
	}
}

// deep is a Str of n pairs, one inside of the other.
func deep(n int) string { return strings.Repeat("(", n) + "a" + strings.Repeat(")", n) }

// P4.1, P4.2: pairs inside of a Str, 32 and 33 deep, and a Str that does not end; what is met first is told.
func TestDeep(t *testing.T) {
	for n := 1; n <= 32; n++ {
		s := deep(n)
		checkNext(t, s, 0, told{api.Tok{Kind: Str, S: s[1 : len(s)-1]}, len(s), api.OK})
		checkNext(t, " "+s[:len(s)-1], 0, wrong(len(s), api.ErrShort))
		checkNext(t, s+")", len(s), wrong(len(s), api.ErrForm))
	}
	for _, x := range []struct {
		s    string
		want told
	}{
		{deep(33), wrong(32, api.ErrDeep)}, {" " + deep(33), wrong(33, api.ErrDeep)}, {deep(40), wrong(32, api.ErrDeep)}, {strings.Repeat("(", 33), wrong(32, api.ErrDeep)}, {strings.Repeat("(", 32), wrong(32, api.ErrShort)},
		{"(" + strings.Repeat("()", 100) + ")", told{api.Tok{Kind: Str, S: strings.Repeat("()", 100)}, 202, api.OK}},  // 2 deep, again and again
		{"(" + strings.Repeat("\\(", 100) + ")", told{api.Tok{Kind: Str, S: strings.Repeat("(", 100)}, 202, api.OK}},  // those of an escape are no pairs
		{"(" + strings.Repeat("\\50", 100) + ")", told{api.Tok{Kind: Str, S: strings.Repeat("(", 100)}, 302, api.OK}}, // nor are those by their digits
		{strings.Repeat("(", 32) + ")" + deep(1) + deep(2), wrong(32+1+3+1, api.ErrDeep)},                             // 32 deep once more, then 33
		{strings.Repeat("(", 32) + ")" + deep(1) + "\\", wrong(32+1+3+1, api.ErrShort)},
		{"(\\", wrong(2, api.ErrShort)}, {"(a", wrong(2, api.ErrShort)}, {"(", wrong(1, api.ErrShort)}, {" (a\\)", wrong(5, api.ErrShort)}, {"(a(b)", wrong(5, api.ErrShort)}, {"(\\(", wrong(3, api.ErrShort)},
		{"(a\\12", wrong(5, api.ErrShort)}, {"(a\r", wrong(3, api.ErrShort)}, {"(a\\\r", wrong(4, api.ErrShort)}, {"(a\\\r\n", wrong(5, api.ErrShort)}, {"(()", wrong(3, api.ErrShort)}, {"(%)\n)", told{api.Tok{Kind: Str, S: "%"}, 3, api.OK}}, // there is no remark in a Str
	} {
		checkNext(t, x.s, 0, x.want)
		if got := plainNext(x.s, 0); got != x.want {
			t.Errorf("the plain Next(%q, 0) = %+v", x.s, got)
		}
	}
}

// P4.2
func TestStr(t *testing.T) {
	for _, x := range []struct{ in, want string }{
		{`\n`, "\x0a"}, {`\r`, "\x0d"}, {`\t`, "\x09"}, {`\b`, "\x08"}, {`\f`, "\x0c"}, {`\(`, "("}, {`\)`, ")"}, {`\\`, `\`}, {`\\n`, `\n`}, {`\\\n`, "\\\n"},
		{`\a`, "a"}, {`\v`, "v"}, {`\N`, "N"}, {`\R`, "R"}, {`\T`, "T"}, {`\B`, "B"}, {`\F`, "F"}, {`\m`, "m"}, {`\o`, "o"}, {`\x41`, "x41"}, {"\\\x00", "\x00"}, {"\\\xff", "\xff"}, {"\\\t", "\t"}, {`\ `, " "}, {`\%`, "%"}, {"\\\u00e9", "\u00e9"},
		{`\0`, "\x00"}, {`\7`, "\x07"}, {`\8`, "8"}, {`\9`, "9"}, {`\/`, "/"}, {`\:`, ":"}, {`\18`, "\x018"}, {`\1`, "\x01"}, {`\12`, "\x0a"}, {`\128`, "\x0a8"}, {`\123`, "S"}, {`\1234`, "S4"}, {`\0534`, "+4"}, {`\00534`, "\x0534"}, {`\101\102`, "AB"}, {`\1 2`, "\x01 2"}, {`\1\2`, "\x01\x02"}, {`\1n`, "\x01n"}, {`\12(\3)`, "\n(\x03)"},
		{`\377`, "\xff"}, {`\400`, "\x00"}, {`\401`, "\x01"}, {`\777`, "\xff"}, {`\776`, "\xfe"}, {`\501`, "A"}, {`\7777`, "\xff7"}, {`\040`, " "}, {`\050`, "("}, {`\51`, ")"}, {`\015`, "\r"}, {`\15` + "\n", "\r\n"}, {`\r` + "\n", "\r\n"},
		{"\\\n", ""}, {"\\\r", ""}, {"\\\r\n", ""}, {"\\\n\r", "\n"}, {"\\\n\n", "\n"}, {"\\\r\r", "\n"}, {"\\\r\r\n", "\n"}, {"\\\r\n\n", "\n"}, {"\\\n\\\n", ""}, {"a\\\nb", "ab"}, {"\\\\\n", "\\\n"}, {"\\\n12", "12"}, {"\\\r\\\n", ""}, {"\\\n\r\n", "\n"},
		{"\r", "\n"}, {"\n", "\n"}, {"\r\n", "\n"}, {"\n\r", "\n\n"}, {"\r\r", "\n\n"}, {"\r\r\n", "\n\n"}, {"\r\n\n", "\n\n"}, {"a\rb\r\nc\nd", "a\nb\nc\nd"}, {"\r\\\n", "\n"}, {"\f\v\x85", "\f\v\x85"}, {"\r\\n", "\n\n"},
		{"", ""}, {"()", "()"}, {"(\\))", "())"}, {"(\r)", "(\n)"}, {"a(b(c)d)e()", "a(b(c)d)e()"}, {"<41>", "<41>"}, {" a ", " a "},
	} {
		s := "(" + x.in + ")"
		checkNext(t, s, 0, told{api.Tok{Kind: Str, S: x.want}, len(s), api.OK})
		checkNext(t, "x"+s+"x", 1, told{api.Tok{Kind: Str, At: 1, S: x.want}, len(s) + 1, api.OK})
		checkPlaces(t, s)
	}
	for v := range 512 {
		s := fmt.Sprintf(`(\%03o%d)`, v, v%10)
		checkNext(t, s, 0, told{api.Tok{Kind: Str, S: string([]byte{byte(v), byte('0' + v%10)})}, len(s), api.OK})
	}
	for c := range 256 {
		checkPlaces(t, "(\\"+string([]byte{byte(c)})+")")
		checkPlaces(t, "("+string([]byte{byte(c)})+")")
		checkPlaces(t, string([]byte{byte(c), '2'}))
		checkPlaces(t, "<"+string([]byte{byte(c)})+">")
	}
}

// P4.1 to P4.3, P4.5: every short text of the bytes that matter.
func TestShortTexts(t *testing.T) {
	each(strings.Split("( ) < > [ ] { } / % \\ # 2 8 - a n \r \n \x00", " "), 3, func(s string) { checkPlaces(t, s); checkAll(t, s) })
	each([]string{"<", ">", "4", "g", " ", "/"}, 5, func(s string) { checkPlaces(t, s); checkAll(t, s) })
	each([]string{"(", ")", "\\", "\r", "\n", "0", "7", "n"}, 5, func(s string) { checkNext(t, "("+s, 0, plainNext("("+s, 0)); checkAll(t, "("+s+")") })
}

// P4.3
func TestAll(t *testing.T) {
	for _, x := range []struct {
		s    string
		want []api.Tok
		n    int
		e    api.Errno
	}{
		{"2 /a#20b <4A5>", []api.Tok{{Kind: Int, N: 2}, {Kind: Name, At: 2, S: "a b"}, {Kind: Hex, At: 9, S: "\x4A\x50"}}, 14, api.OK},
		{"", nil, 0, api.OK}, {" \n", nil, 2, api.OK}, {"% a", nil, 3, api.OK}, {"a ", []api.Tok{{Kind: Word, S: "a"}}, 2, api.OK}, {"a%)", []api.Tok{{Kind: Word, S: "a"}}, 3, api.OK},
		{"[(a)]<</b{}>>", []api.Tok{{Kind: Open}, {Kind: Str, At: 1, S: "a"}, {Kind: Close, At: 4}, {Kind: DOpen, At: 5}, {Kind: Name, At: 7, S: "b"}, {Kind: POpen, At: 9}, {Kind: PClose, At: 10}, {Kind: DClose, At: 11}}, 13, api.OK},
		{"<<<41>>>", []api.Tok{{Kind: DOpen}, {Kind: Hex, At: 2, S: "A"}, {Kind: DClose, At: 6}}, 8, api.OK},
		{"a )", nil, 2, api.ErrForm}, {"a b > c", nil, 4, api.ErrForm}, {">>>", nil, 2, api.ErrForm}, {"<<<", nil, 3, api.ErrShort}, {"1 2 3000000000 )", nil, 4, api.ErrBig}, {"/a <4x> )", nil, 5, api.ErrHex}, {"/a <41 ", nil, 7, api.ErrShort}, {"/a (b", nil, 5, api.ErrShort}, {"/a " + deep(33) + ")", nil, 35, api.ErrDeep},
		{") <4x>", nil, 0, api.ErrForm}, {"<4x> )", nil, 2, api.ErrHex}, {"a)b", nil, 1, api.ErrForm}, {"(a))", nil, 3, api.ErrForm},
	} {
		l, n, e := All(x.s)
		if !slices.Equal(l, x.want) || n != x.n || e != x.e {
			t.Errorf("All(%q) = %+v, %d, %d, want %+v, %d, %d", x.s, l, n, e, x.want, x.n, x.e)
		}
		if e != api.OK && l != nil {
			t.Errorf("All(%q) tells tokens beside an error", x.s)
		}
		checkAll(t, x.s)
	}
}

// P4.3: 65536 tokens, and one more; an error is told where it is met.
func TestFull(t *testing.T) {
	const full = 65536
	for _, unit := range []string{"[", "1 ", "/a", "(b)\n", "% c\n<41>", ">>"} {
		s := strings.Repeat(unit, full)
		at := strings.LastIndex(s, unit) + strings.Index(unit, strings.TrimSpace(strings.TrimPrefix(unit, "% c\n")))
		l, n, e := All(s)
		if e != api.OK || n != len(s) || len(l) != full || l[full-1].At != at {
			t.Errorf("%d of %q: %d tokens, %d, %d", full, unit, len(l), n, e)
		}
		for _, behind := range []string{" ", " % a", " \n"} {
			if l, n, e := All(s + behind); e != api.OK || n != len(s)+len(behind) || len(l) != full {
				t.Errorf("%d of %q and %q: %d tokens, %d, %d", full, unit, behind, len(l), n, e)
			}
		}
		for _, x := range []struct {
			behind string
			place  int
			e      api.Errno
		}{
			{" ]", 1, api.ErrFull}, {" a", 1, api.ErrFull}, {"%\n  (b) c", 4, api.ErrFull}, {" a )", 1, api.ErrFull}, {" a (", 1, api.ErrFull},
			{" )", 1, api.ErrForm}, {" (a", 3, api.ErrShort}, {" <x>", 2, api.ErrHex}, {" 3000000000", 1, api.ErrBig},
		} {
			if l, n, e := All(s + x.behind); e != x.e || n != len(s)+x.place || l != nil {
				t.Errorf("%d of %q and %q: %d tokens, %d, %d", full, unit, x.behind, len(l), n, e)
			}
		}
		l, n, e = All(s[len(unit):])
		if e != api.OK || n != len(s)-len(unit) || len(l) != full-1 {
			t.Errorf("%d of %q: %d tokens, %d, %d", full-1, unit, len(l), n, e)
		}
	}
}

// P4.4: each kind; fields that a kind does not have are not shown; no kind.
func TestShow(t *testing.T) {
	for _, x := range []struct {
		t    api.Tok
		want string
	}{
		{api.Tok{}, ""}, {api.Tok{Kind: End, At: 3, N: 4, S: "a"}, ""},
		{api.Tok{Kind: 12, N: 4, S: "a"}, ""}, {api.Tok{Kind: 13, S: "a"}, ""}, {api.Tok{Kind: -1, S: "a"}, ""}, {api.Tok{Kind: math.MinInt, S: "a"}, ""}, {api.Tok{Kind: math.MaxInt, S: "a"}, ""}, {api.Tok{Kind: 256 + Word, S: "a"}, ""}, {api.Tok{Kind: 1<<32 + Open, S: "a"}, ""},
		{api.Tok{Kind: Int, At: 5, N: 0, S: "x"}, "0"}, {api.Tok{Kind: Int, N: -3}, "-3"}, {api.Tok{Kind: Int, N: 1<<31 - 1}, "2147483647"}, {api.Tok{Kind: Int, N: -1 << 31}, "-2147483648"}, {api.Tok{Kind: Int, N: math.MinInt}, fmt.Sprint(math.MinInt)}, {api.Tok{Kind: Int, N: math.MaxInt}, fmt.Sprint(math.MaxInt)},
		{api.Tok{Kind: Name, N: 7, S: "a b"}, "/a#20b"}, {api.Tok{Kind: Name}, "/"}, {api.Tok{Kind: Name, S: "#/\x7f\xff!~"}, "/#23#2F#7F#FF!~"}, {api.Tok{Kind: Name, S: "\\"}, "/\\"},
		{api.Tok{Kind: Word, N: 7, S: "def"}, "def"}, {api.Tok{Kind: Word}, ""}, {api.Tok{Kind: Word, S: "( \xff"}, "( \xff"},
		{api.Tok{Kind: Hex, N: 7, S: "\x4a\x05\xff\x00"}, "<4A05FF00>"}, {api.Tok{Kind: Hex}, "<>"},
		{api.Tok{Kind: Str, N: 7}, "()"}, {api.Tok{Kind: Str, S: "\x1f \x7e\x7f"}, `(\037 ~\177)`}, {api.Tok{Kind: Str, S: "a(\\)b"}, `(a\050\134\051b)`}, {api.Tok{Kind: Str, S: "\x00\x012\x80\xff"}, `(\000\0012\200\377)`}, {api.Tok{Kind: Str, S: "\n\r\t\b\f"}, `(\012\015\011\010\014)`}, {api.Tok{Kind: Str, S: "%<>[]{}/#!"}, "(%<>[]{}/#!)"}, {api.Tok{Kind: Str, S: "\u00e9"}, `(\303\251)`},
		{api.Tok{Kind: Open, N: 7, S: "x"}, "["}, {api.Tok{Kind: Close, S: "x"}, "]"}, {api.Tok{Kind: DOpen, S: "x"}, "<<"}, {api.Tok{Kind: DClose, S: "x"}, ">>"}, {api.Tok{Kind: POpen, S: "x"}, "{"}, {api.Tok{Kind: PClose, S: "x"}, "}"},
	} {
		if got := Show(x.t); got != x.want {
			t.Errorf("Show(%+v) = %q, want %q", x.t, got, x.want)
		}
	}
	all := ""
	for c := range 256 {
		b := string([]byte{byte(c)})
		all += b
		for _, kind := range []int{Name, Hex, Str} {
			checkAgain(t, []api.Tok{{Kind: kind, S: b}, {Kind: kind, S: b + "0"}, {Kind: kind, S: b + b}})
		}
	}
	checkAgain(t, []api.Tok{{Kind: Name, S: all}, {Kind: Hex, S: all}, {Kind: Str, S: all}})
}

// P4.4: a blank between each two, of those too that show nothing.
func TestText(t *testing.T) {
	a, n := api.Tok{Kind: Word, S: "a"}, api.Tok{Kind: Int, N: -1}
	for _, x := range []struct {
		l    []api.Tok
		want string
	}{
		{nil, ""}, {[]api.Tok{}, ""}, {[]api.Tok{a}, "a"}, {[]api.Tok{a, n}, "a -1"}, {[]api.Tok{n, a, n}, "-1 a -1"},
		{[]api.Tok{{}}, ""}, {[]api.Tok{{}, {}}, " "}, {[]api.Tok{a, {}, n}, "a  -1"}, {[]api.Tok{{Kind: 99}, a, {Kind: -1}}, " a "},
		{[]api.Tok{{Kind: DOpen}, {Kind: Name}, {Kind: Hex}, {Kind: Str}, {Kind: DClose}}, "<< / <> () >>"},
	} {
		before := slices.Clone(x.l)
		if got := Text(x.l); got != x.want {
			t.Errorf("Text(%+v) = %q, want %q", x.l, got, x.want)
		}
		if !slices.Equal(before, x.l) {
			t.Errorf("Text(%+v) changed what it was given", before)
		}
	}
}

// P4.5: tokens of all forms, one behind the other.
func TestAgain(t *testing.T) {
	l := written()
	checkAll(t, strings.Join(l, " "))
	checkAll(t, strings.Join(l, "\n% a (\r"))
	slices.Reverse(l)
	checkAll(t, strings.Join(l, "\x00"))
	many := strings.Repeat(strings.Join(l, " ")+" ", 65536/len(l))
	checkAll(t, many)
}

// P1: numbers and texts of any kind.
func TestNoPanic(t *testing.T) {
	for _, s := range []string{"", "(", "<", "/", "\\", "%", strings.Repeat("(", 100000), strings.Repeat("<", 100001), strings.Repeat("\\", 100000), "(" + strings.Repeat("\\", 100001), "<" + strings.Repeat("4", 100000)} {
		for _, at := range []int{math.MinInt, -1, 0, 1, len(s) - 1, len(s), len(s) + 1, math.MaxInt} {
			checkNext(t, s, at, plainNext(s, at))
		}
	}
}

func FuzzBytes(f *testing.F) {
	f.Add("2 /a#20b <4A5> % x\n[(a(b)\\12\\\r\n)]", 3)
	for _, x := range one {
		f.Add(x.s, 0)
	}
	f.Fuzz(func(t *testing.T, s string, at int) {
		checkNext(t, s, at, plainNext(s, at))
		checkAll(t, s)
		for kind := -1; kind <= 12; kind++ {
			u := api.Tok{Kind: kind, N: at, S: s}
			if got, want := Show(u), plainShow(u); got != want {
				t.Fatalf("Show(%+v) = %q, want %q", u, got, want)
			}
			if kind == Name || kind == Hex || kind == Str {
				checkAgain(t, []api.Tok{{Kind: kind, S: s}})
			}
		}
	})
}

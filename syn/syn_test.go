package syn

import (
	"fmt"
	"math"
	"math/big"
	"slices"
	"strconv"
	"strings"
	"testing"

	"hornbook/api"
	"hornbook/tok"
)

// names are the sections' names, as the chapter lists them.
var names = map[int]string{
	2: "codespacerange", 3: "cidrange", 4: "cidchar", 5: "notdefrange", 6: "notdefchar", 7: "bfrange", 8: "bfchar",
}

// shapes are the entries of each section, a letter for each of their parts: see plainPart.
var shapes = map[int]string{2: "cb", 3: "chT", 4: "ct", 5: "cht", 6: "ct", 7: "chD", 8: "cu"}

// fault is what the plain model panics with.
type fault struct {
	place int
	e     api.Errno
}

func plainParse(l []api.Tok, end int) (items []Item, place int, e api.Errno) {
	defer func() {
		if x := recover(); x != nil {
			f := x.(fault)
			items, place, e = nil, f.place, f.e
		}
	}()
	open := map[int]string{tok.Open: "[", tok.DOpen: "<", tok.POpen: "{"}
	closed := map[int]string{tok.Close: "[", tok.DClose: "<", tok.PClose: "{"}
	deep := ""
	for i := 0; i < len(l); i++ {
		t := l[i]
		if mark := open[t.Kind]; mark != "" {
			if deep += mark; len(deep) > 32 {
				panic(fault{t.At, api.ErrDeep})
			}
		}
		if mark := closed[t.Kind]; mark != "" {
			if !strings.HasSuffix(deep, mark) {
				panic(fault{t.At, api.ErrForm})
			}
			deep = strings.TrimSuffix(deep, mark)
		}
		if t.Kind != tok.Word || deep != "" {
			continue
		}
		if t.S == "def" && i > 1 && l[i-2].Kind == tok.Name && slices.Contains([]int{tok.Int, tok.Name, tok.Str}, l[i-1].Kind) {
			items = append(items, Item{At: t.At, Name: l[i-2].S, Val: l[i-1]})
		}
		if t.S == "usecmap" {
			if i == 0 || l[i-1].Kind != tok.Name {
				panic(fault{t.At, api.ErrForm})
			}
			items = append(items, Item{Kind: 1, At: t.At, Name: l[i-1].S})
		}
		for kind, name := range names {
			if t.S == "begin"+name {
				var x Item
				x, i = plainSection(l, i, end, kind)
				items = append(items, x)
			}
		}
	}
	if deep != "" {
		panic(fault{end, api.ErrShort})
	}
	return items, end, api.OK
}

// plainSection is the section that l[i] begins, and the place in l of its last word.
func plainSection(l []api.Tok, i, end, kind int) (Item, int) {
	x := Item{Kind: kind, At: l[i].At}
	if i == 0 || l[i-1].Kind != tok.Int {
		panic(fault{l[i].At, api.ErrForm})
	}
	count := l[i-1]
	if count.N < 0 || count.N > 100 {
		panic(fault{count.At, api.ErrCount})
	}
	for i++; ; {
		if i < len(l) && l[i].Kind == tok.Word && l[i].S == "end"+names[kind] {
			if len(x.Ents) != count.N {
				panic(fault{l[i].At, api.ErrCount})
			}
			return x, i
		}
		var ent Ent
		for _, part := range shapes[kind] {
			i = plainPart(l, i, end, part, &ent)
		}
		x.Ents = append(x.Ents, ent)
	}
}

// plainPart puts one part of an entry, which begins at l[i], into ent, and tells the place behind it: c the first code, b and h a second one whose bytes, or whose number, are not below; t and T a number, T one more for each code; u units, D units one more for each code, or a list.
func plainPart(l []api.Tok, i, end int, part rune, ent *Ent) int {
	kind := tok.Hex
	if part == 't' || part == 'T' {
		kind = tok.Int
	}
	if part == 'D' && i < len(l) && l[i].Kind == tok.Open {
		return plainList(l, i+1, end, ent)
	}
	t := plainTake(l, i, end, kind)
	switch part {
	case 'c':
		ent.Lo = plainCode(t)
		ent.Hi = ent.Lo
	case 'b', 'h':
		ent.Hi = plainCode(t)
		if ent.Hi.N != ent.Lo.N {
			panic(fault{t.At, api.ErrCode})
		}
		for k := 0; k < 4 && part == 'b'; k++ {
			if ent.Hi.V>>(8*k)%256 < ent.Lo.V>>(8*k)%256 {
				panic(fault{t.At, api.ErrRange})
			}
		}
		if ent.Hi.V < ent.Lo.V {
			panic(fault{t.At, api.ErrRange})
		}
	case 't', 'T':
		plainSum(t, t.N, ent, part == 'T')
		ent.To = t.N
	case 'u', 'D':
		ent.U = plainUnits(t)
		plainSum(t, ent.U[len(ent.U)-1], ent, part == 'D')
	}
	return i + 1
}

func plainTake(l []api.Tok, i, end, kind int) api.Tok {
	if i >= len(l) {
		panic(fault{end, api.ErrShort})
	}
	if l[i].Kind != kind {
		panic(fault{l[i].At, api.ErrForm})
	}
	return l[i]
}

// plainSum looks at n, and at what the last code goes to, if they are to go up.
func plainSum(t api.Tok, n int, ent *Ent, up bool) {
	last := big.NewInt(int64(n))
	if up {
		last.Add(last, big.NewInt(int64(ent.Hi.V-ent.Lo.V)))
	}
	if n < 0 || last.Cmp(big.NewInt(65535)) > 0 {
		panic(fault{t.At, api.ErrRange})
	}
}

func plainCode(t api.Tok) api.Code {
	if len(t.S) < 1 || len(t.S) > 4 {
		panic(fault{t.At, api.ErrCode})
	}
	v, err := strconv.ParseUint(fmt.Sprintf("%x", t.S), 16, 32)
	if err != nil {
		panic(err)
	}
	return api.Code{N: len(t.S), V: int(v)}
}

func plainUnits(t api.Tok) (u []int) {
	if len(t.S)%2 != 0 || len(t.S) < 2 || len(t.S) > 128 {
		panic(fault{t.At, api.ErrForm})
	}
	for s := t.S; s != ""; s = s[2:] {
		u = append(u, 256*int(s[0])+int(s[1]))
	}
	return u
}

func plainList(l []api.Tok, i, end int, ent *Ent) int {
	for {
		if i < len(l) && l[i].Kind == tok.Close {
			if len(ent.L) != ent.Hi.V-ent.Lo.V+1 {
				panic(fault{l[i].At, api.ErrCount})
			}
			return i + 1
		}
		ent.L = append(ent.L, plainUnits(plainTake(l, i, end, tok.Hex)))
		i++
	}
}

func sameEnt(a, b Ent) bool {
	return a.Lo == b.Lo && a.Hi == b.Hi && a.To == b.To && slices.Equal(a.U, b.U) && slices.EqualFunc(a.L, b.L, slices.Equal)
}

func sameItem(a, b Item) bool {
	return a.Kind == b.Kind && a.At == b.At && a.Name == b.Name && a.Val == b.Val && slices.EqualFunc(a.Ents, b.Ents, sameEnt)
}

func checkToks(t *testing.T, l []api.Tok, end int, want []Item, place int, e api.Errno) {
	t.Helper()
	got, at, err := Parse(l, end)
	if !slices.EqualFunc(got, want, sameItem) || at != place || err != e {
		t.Fatalf("Parse(%+v, %d) = %+v, %d, %d, want %+v, %d, %d", l, end, got, at, err, want, place, e)
	}
}

// checkPlain holds Parse against the plain model, and holds P5.4 of what it answers.
func checkPlain(t *testing.T, l []api.Tok, end int) {
	t.Helper()
	want, place, e := plainParse(l, end)
	checkToks(t, l, end, want, place, e)
	got, _, _ := Parse(l, end)
	for _, x := range got {
		checkItem(t, l, x)
	}
}

// checkItem: P5.4, entries that may be, and no field filled that has no meaning in them.
func checkItem(t *testing.T, l []api.Tok, x Item) {
	t.Helper()
	if x.Kind < Def || x.Kind > BfChar || len(x.Ents) > 100 || x.Kind < Space && len(x.Ents) > 0 {
		t.Fatalf("%+v of %+v may not be", x, l)
	}
	if x.Kind > Use && x.Name != "" || x.Kind != Def && x.Val != (api.Tok{}) {
		t.Fatalf("%+v of %+v has a name or a value", x, l)
	}
	for _, y := range x.Ents {
		if !mayBe(x.Kind, y) {
			t.Fatalf("the entry %+v of %+v may not be", y, l)
		}
	}
}

func mayBe(kind int, y Ent) bool {
	more := y.Hi.V - y.Lo.V
	codes := y.Lo.N == y.Hi.N && y.Lo.N >= 1 && y.Lo.N <= 4 && y.Lo.V >= 0 && more >= 0 && y.Hi.V < 1<<(8*y.Hi.N)
	number := y.To >= 0 && y.To <= 65535
	none := len(y.U) == 0 && len(y.L) == 0
	units := func(u []int) bool {
		return len(u) >= 1 && len(u) <= 64 && slices.Min(u) >= 0 && slices.Max(u) <= 65535
	}
	switch kind {
	case Space:
		for v, w := y.Lo.V, y.Hi.V; v > 0; v, w = v/256, w/256 {
			codes = codes && v%256 <= w%256
		}
		return codes && none && y.To == 0
	case CidRange:
		return codes && none && number && y.To+more <= 65535
	case NotRange:
		return codes && none && number
	case CidChar, NotChar:
		return codes && none && number && more == 0
	case BfChar:
		return codes && y.To == 0 && units(y.U) && len(y.L) == 0 && more == 0
	}
	if len(y.L) == 0 {
		return codes && y.To == 0 && units(y.U) && y.U[len(y.U)-1]+more <= 65535
	}
	return codes && y.To == 0 && len(y.U) == 0 && len(y.L) == more+1 && !slices.ContainsFunc(y.L, func(u []int) bool { return !units(u) })
}

func toks(t *testing.T, s string) []api.Tok {
	t.Helper()
	l, _, e := tok.All(s)
	if e != api.OK {
		t.Fatalf("%q has no tokens: %d", s, e)
	}
	return l
}

// check: a source without an error.
func check(t *testing.T, s string, want ...Item) {
	t.Helper()
	l := toks(t, s)
	checkToks(t, l, len(s), want, len(s), api.OK)
	checkPlain(t, l, len(s))
}

// checkErr: a source in which "!" marks the place of its error; it is none of the source.
func checkErr(t *testing.T, marked string, e api.Errno) {
	t.Helper()
	ahead, behind, ok := strings.Cut(marked, "!")
	if !ok {
		t.Fatalf("%q has no mark", marked)
	}
	s := ahead + behind
	l := toks(t, s)
	checkToks(t, l, len(s), nil, len(ahead), e)
	checkPlain(t, l, len(s))
}

func section(kind, at int, l ...Ent) Item { return Item{Kind: kind, At: at, Ents: l} }

// around is a section of one entry.
func around(kind int, entry string) string {
	return "1 begin" + names[kind] + " " + entry + " end" + names[kind]
}

// checkEntry: a section of that one entry.
func checkEntry(t *testing.T, kind int, entry string, want Ent) {
	t.Helper()
	check(t, around(kind, entry), section(kind, 2, want))
}

func checkWrong(t *testing.T, kind int, entry string, e api.Errno) {
	t.Helper()
	checkErr(t, around(kind, entry), e)
}

func code(n, v int) api.Code { return api.Code{N: n, V: v} }

// P5.1: the kinds are these numbers.
func TestKindNumbers(t *testing.T) {
	got := []int{Def, Use, Space, CidRange, CidChar, NotRange, NotChar, BfRange, BfChar}
	for want, kind := range got {
		if kind != want {
			t.Errorf("kind %d is %d", want, kind)
		}
	}
}

// P5.3.
func TestBegin(t *testing.T) {
	want := []string{
		"", "", "begincodespacerange", "begincidrange", "begincidchar", "beginnotdefrange", "beginnotdefchar", "beginbfrange", "beginbfchar", "",
	}
	for kind, s := range want {
		if got := Begin(kind); got != s {
			t.Errorf("Begin(%d) = %q, want %q", kind, got, s)
		}
	}
	for _, kind := range []int{-1, -2, math.MinInt, 10, 256 + 2, 1<<32 + 3, math.MaxInt} {
		if got := Begin(kind); got != "" {
			t.Errorf("Begin(%d) = %q, want none", kind, got)
		}
	}
}

// P5.1: without tokens there is nothing, and end is told as it is.
func TestNone(t *testing.T) {
	for _, end := range []int{0, 1, -1, 7, math.MaxInt, math.MinInt} {
		checkToks(t, nil, end, nil, end, api.OK)
		checkToks(t, []api.Tok{}, end, nil, end, api.OK)
		checkToks(t, []api.Tok{{Kind: tok.Word, S: "x"}}, end, nil, end, api.OK)
	}
	check(t, "")
	check(t, " % 1 begincidchar\n")
}

// whole is one source of each kind of item, and that item as it stands at the head.
var whole = []struct {
	s string
	x Item
}{
	{"/A 5 def", Item{Kind: Def, At: 5, Name: "A", Val: api.Tok{Kind: tok.Int, At: 3, N: 5}}},
	{"/A usecmap", Item{Kind: Use, At: 3, Name: "A"}},
	{"1 begincodespacerange <00> <80> endcodespacerange", section(Space, 2, Ent{Lo: code(1, 0), Hi: code(1, 128)})},
	{"1 begincidrange <0005> <0007> 9 endcidrange", section(CidRange, 2, Ent{Lo: code(2, 5), Hi: code(2, 7), To: 9})},
	{"1 begincidchar <41> 7 endcidchar", section(CidChar, 2, Ent{Lo: code(1, 0x41), Hi: code(1, 0x41), To: 7})},
	{"1 beginnotdefrange <05> <07> 65535 endnotdefrange", section(NotRange, 2, Ent{Lo: code(1, 5), Hi: code(1, 7), To: 65535})},
	{"1 beginnotdefchar <05> 1 endnotdefchar", section(NotChar, 2, Ent{Lo: code(1, 5), Hi: code(1, 5), To: 1})},
	{"1 beginbfrange <05> <07> <00410042> endbfrange", section(BfRange, 2, Ent{Lo: code(1, 5), Hi: code(1, 7), U: []int{0x41, 0x42}})},
	{"1 beginbfrange <05> <06> [<0041> <D83DDE00>] endbfrange", section(BfRange, 2, Ent{Lo: code(1, 5), Hi: code(1, 6), L: [][]int{{0x41}, {0xD83D, 0xDE00}}})},
	{"1 beginbfchar <05> <0041> endbfchar", section(BfChar, 2, Ent{Lo: code(1, 5), Hi: code(1, 5), U: []int{0x41}})},
}

// moved is an item so many bytes on.
func moved(x Item, by int) Item {
	x.At += by
	if x.Kind == Def {
		x.Val.At += by
	}
	return x
}

// P5.1, P5.2: each kind of item alone, and with others ahead and behind.
func TestEachKind(t *testing.T) {
	for _, x := range whole {
		check(t, x.s, x.x)
		check(t, "foo "+x.s+" bar", moved(x.x, 4))
		for _, y := range whole {
			check(t, x.s+" "+y.s, x.x, moved(y.x, len(x.s)+1))
			for _, z := range whole {
				two := x.s + " " + y.s
				check(t, two+"\n"+z.s, x.x, moved(y.x, len(x.s)+1), moved(z.x, len(two)+1))
			}
		}
	}
}

// P5.1: what is told nothing of does nothing, alone or among items.
func TestNothing(t *testing.T) {
	for _, s := range []string{
		"5", "/A", "(x)", "<41>", "<>", "[]", "<<>>", "{}", "x", "1 2 3", "/A /B", "begin", "end", "beginx", "begincmap endcmap", "Def", "DEF", "USECMAP", "deff", "usecmaps",
		"endcodespacerange", "endcidrange", "endcidchar", "endnotdefrange", "endnotdefchar", "endbfrange", "endbfchar", "1 endcidchar",
		"codespacerange", "1 cidchar <05> 1", "/begincidchar", "(begincidchar)", "/usecmap", "(usecmap)", "/def", "Begincidchar", "begincidchars", "BEGINBFCHAR",
		"findresource begin 12 dict begin", "beginnotdef", "beginbf",
	} {
		check(t, s)
		check(t, s+" /A usecmap", Item{Kind: Use, At: len(s) + 4, Name: "A"})
		check(t, "/A usecmap "+s, Item{Kind: Use, At: 3, Name: "A"})
	}
}

// P5.1: def.
func TestDef(t *testing.T) {
	def := func(at int, name string, val api.Tok) Item { return Item{Kind: Def, At: at, Name: name, Val: val} }
	for _, s := range []string{
		"def", "/A def", "5 def", "5 6 def", "(A) 5 def", "A 5 def", "<41> 5 def", "/A <41> def", "/A x def", "/A def def", "/A [] def", "/A [5] def", "/A <<>> def", "/A {} def", "[/A] 5 def",
		"/A 5 6 def", "/A 5 x def", "/A 5 [] def", "/A 5 /def", "/A 5 (def)", "def def def",
	} {
		check(t, s)
	}
	check(t, "/A -5 def", def(6, "A", api.Tok{Kind: tok.Int, At: 3, N: -5}))
	check(t, "/A /B def", def(6, "A", api.Tok{Kind: tok.Name, At: 3, S: "B"}))
	check(t, "/A (B) def", def(7, "A", api.Tok{Kind: tok.Str, At: 3, S: "B"}))
	check(t, "/ / def", def(4, "", api.Tok{Kind: tok.Name, At: 2}))
	check(t, "/A () def", def(6, "A", api.Tok{Kind: tok.Str, At: 3}))
	check(t, "/A /B /C def", def(9, "B", api.Tok{Kind: tok.Name, At: 6, S: "C"}))
	check(t, "5 /A 6 def def", def(7, "A", api.Tok{Kind: tok.Int, At: 5, N: 6}))
	check(t, "/A 5 def /A 6 def", def(5, "A", api.Tok{Kind: tok.Int, At: 3, N: 5}), def(14, "A", api.Tok{Kind: tok.Int, At: 12, N: 6}))
	check(t, "/a#20b 5 def", def(9, "a b", api.Tok{Kind: tok.Int, At: 7, N: 5}))
	check(t, "[ /X 1 def ] /A 5 def", def(18, "A", api.Tok{Kind: tok.Int, At: 16, N: 5}))
	odd := api.Tok{Kind: tok.Int, At: -3, N: math.MinInt, S: "odd"}
	checkToks(t, []api.Tok{{Kind: tok.Name, N: 4, S: "n"}, odd, {Kind: tok.Word, At: -9, N: 8, S: "def"}}, 1, []Item{def(-9, "n", odd)}, 1, api.OK)
	for kind := -2; kind < 14; kind++ {
		val := api.Tok{Kind: kind, At: 2, S: "def"}
		checkPlain(t, []api.Tok{{Kind: tok.Name, S: "A"}, val, {Kind: tok.Word, At: 5, S: "def"}}, 9)
		checkPlain(t, []api.Tok{val, {Kind: tok.Int, At: 3}, {Kind: tok.Word, At: 5, S: "def"}}, 9)
	}
}

// P5.1: usecmap.
func TestUse(t *testing.T) {
	use := func(at int, name string) Item { return Item{Kind: Use, At: at, Name: name} }
	check(t, "/H usecmap", use(3, "H"))
	check(t, "/ usecmap", use(2, ""))
	check(t, "/a#20b usecmap", use(7, "a b"))
	check(t, "/G /H usecmap 5", use(6, "H"))
	check(t, "[] /H usecmap", use(6, "H"))
	check(t, "/H usecmap /H usecmap", use(3, "H"), use(14, "H"))
	check(t, "[usecmap] {usecmap} <<usecmap>>")
	for _, s := range []string{
		"!usecmap", " !usecmap", "5 !usecmap", "(H) !usecmap", "<41> !usecmap", "x !usecmap", "[] !usecmap", "<<>> !usecmap", "{} !usecmap", "[/H] !usecmap",
		"/H 5 !usecmap", "/H usecmap !usecmap", "/H 5 def !usecmap", "0 beginbfchar endbfchar !usecmap", "!usecmap /H", "!usecmap ]", "5 !usecmap 101 beginbfchar",
	} {
		checkErr(t, s, api.ErrForm)
	}
	for kind := -2; kind < 14; kind++ {
		l := []api.Tok{{Kind: kind, At: 2, S: "H"}, {Kind: tok.Word, At: 5, S: "usecmap"}}
		checkPlain(t, l, 9)
	}
	checkToks(t, []api.Tok{{Kind: tok.End, S: "H"}, {Kind: tok.Word, At: 5, S: "usecmap"}}, 9, nil, 5, api.ErrForm)
}

// P5.1: pairs.
func TestPairs(t *testing.T) {
	marks := [][2]string{{"[", "]"}, {"<<", ">>"}, {"{", "}"}}
	for i, x := range marks {
		check(t, x[0]+x[1])
		check(t, x[0]+" 5 x /A "+x[1]+" /B usecmap", Item{Kind: Use, At: len(x[0]) + 8 + len(x[1]) + 4, Name: "B"})
		checkErr(t, x[0]+"!", api.ErrShort)
		checkErr(t, x[0]+" 5 !", api.ErrShort)
		checkErr(t, "!"+x[1], api.ErrForm)
		checkErr(t, "5 !"+x[1], api.ErrForm)
		checkErr(t, x[0]+x[1]+" !"+x[1], api.ErrForm)
		checkErr(t, "/A usecmap !"+x[1], api.ErrForm)
		checkErr(t, "/A usecmap "+x[0]+"!", api.ErrShort)
		checkErr(t, "!"+x[1]+" "+x[0], api.ErrForm)
		// 32 deep and no deeper, of this pair alone and with another one on top.
		check(t, strings.Repeat(x[0], 32)+strings.Repeat(x[1], 32))
		check(t, strings.Repeat(strings.Repeat(x[0], 32)+strings.Repeat(x[1], 32), 2))
		checkErr(t, strings.Repeat(x[0], 32)+"!", api.ErrShort)
		checkErr(t, strings.Repeat(x[0], 32)+strings.Repeat(x[1], 31)+"!", api.ErrShort)
		checkErr(t, strings.Repeat(x[0], 32)+strings.Repeat(x[1], 32)+"!"+x[1], api.ErrForm)
		for j, y := range marks {
			check(t, x[0]+y[0]+y[1]+x[1])
			check(t, strings.Repeat(x[0], 31)+y[0]+y[1]+y[0]+y[1]+strings.Repeat(x[1], 31))
			checkErr(t, strings.Repeat(x[0], 32)+"!"+y[0]+y[1]+strings.Repeat(x[1], 32), api.ErrDeep)
			checkErr(t, strings.Repeat(x[0], 32)+"!"+y[0], api.ErrDeep)
			checkErr(t, strings.Repeat(x[0], 31)+y[0]+" !"+y[0], api.ErrDeep)
			if i != j {
				checkErr(t, x[0]+"!"+y[1], api.ErrForm)
				checkErr(t, x[0]+" "+y[0]+"!"+x[1]+y[1], api.ErrForm)
				checkErr(t, x[0]+y[0]+y[1]+" !"+y[1], api.ErrForm)
				checkErr(t, strings.Repeat(x[0], 32)+"!"+y[1], api.ErrForm)
			}
		}
	}
	check(t, "[<<{}>>]{<<[]>>}")
}

// P5.1: words that are deep in a pair do nothing, right or wrong; ahead of it and behind it they do.
func TestDeepWords(t *testing.T) {
	for _, inside := range []string{
		"/A 5 def", "/A usecmap", "usecmap", "1 begincidchar", "begincidchar", "101 beginbfchar", "1 beginbfrange <05> <06> [<0041>]", "0 beginbfchar endbfchar", "1 begincidchar <05> 65536 endcidchar", "{usecmap}", "[{} usecmap]",
	} {
		for _, x := range []string{"[ %s ]", "<< %s >>", "{ %s }", "{ [] %s }", "[ << { %s } >> ]"} {
			s := fmt.Sprintf(x, inside)
			check(t, s)
			check(t, "/B usecmap "+s, Item{Kind: Use, At: 3, Name: "B"})
			check(t, s+" /B usecmap", Item{Kind: Use, At: len(s) + 4, Name: "B"})
			checkErr(t, s+" !usecmap", api.ErrForm)
		}
	}
	checkErr(t, "[ usecmap!", api.ErrShort)
	checkErr(t, "[ usecmap !}", api.ErrForm)
}

// many is a section of n entries of which so many are told.
func many(kind, told, n int) string {
	entry := map[int]string{2: "<05> <06> ", 3: "<05> <06> 1 ", 4: "<05> 1 ", 5: "<05> <06> 1 ", 6: "<05> 1 ", 7: "<05> <06> <0041> ", 8: "<05> <0041> "}
	return fmt.Sprint(told, " begin", names[kind], " ", strings.Repeat(entry[kind], n), "!end", names[kind])
}

// P5.2: as many entries as were told.
func TestCount(t *testing.T) {
	for kind := range names {
		for _, n := range []int{0, 1, 2, 99, 100} {
			s := strings.Replace(many(kind, n, n), "!", "", 1)
			l := toks(t, s)
			checkPlain(t, l, len(s))
			got, at, e := Parse(l, len(s))
			if e != api.OK || at != len(s) || len(got) != 1 || got[0].Kind != kind || len(got[0].Ents) != n {
				t.Fatalf("Parse(%q) = %+v, %d, %d", s, got, at, e)
			}
			checkErr(t, many(kind, n, n+1), api.ErrCount)
			if n > 0 {
				checkErr(t, many(kind, n, n-1), api.ErrCount)
				checkErr(t, many(kind, n, 0), api.ErrCount)
			}
		}
		checkErr(t, many(kind, 1, 300), api.ErrCount)
		for _, n := range []string{"101", "102", "-1", "-100", "2147483647", "-2147483648"} {
			checkErr(t, "!"+n+" begin"+names[kind]+" end"+names[kind], api.ErrCount)
			checkErr(t, "5 /A !"+n+" begin"+names[kind], api.ErrCount)
			checkErr(t, "!"+n+" begin"+names[kind]+" x", api.ErrCount)
		}
		for _, ahead := range []string{"", "/A ", "(1) ", "<01> ", "x ", "[1] ", "<<1>> ", "{1} ", "1 /A ", "1 x ", "/A usecmap ", "1.5 "} {
			checkErr(t, ahead+"!begin"+names[kind]+" end"+names[kind], api.ErrForm)
			checkErr(t, ahead+"!begin"+names[kind], api.ErrForm)
		}
		for _, n := range []int{math.MinInt, -1, 101, 1 << 32, math.MaxInt} {
			l := []api.Tok{{Kind: tok.Int, At: 7, N: n}, {Kind: tok.Word, At: 8, S: "begin" + names[kind]}, {Kind: tok.Word, At: 9, S: "end" + names[kind]}}
			checkToks(t, l, 10, nil, 7, api.ErrCount)
		}
	}
}

// P5.2: a section ends with its own word alone.
func TestSectionEnd(t *testing.T) {
	for kind, name := range names {
		for other, word := range names {
			if other != kind {
				checkErr(t, "0 begin"+name+" !end"+word+" end"+name, api.ErrForm)
			}
			checkErr(t, "0 begin"+name+" !begin"+word, api.ErrForm)
		}
		for _, x := range []string{"def", "usecmap", "end", "/end" + name, "(end" + name + ")", "5", "[", "]", "<<", ">>", "{", "}", "/A", "(x)", "End" + name, "end" + name + "s"} {
			checkErr(t, "0 begin"+name+" !"+x+" end"+name, api.ErrForm)
		}
		// A Hex of the same bytes is no word, but a code of too many bytes.
		checkErr(t, fmt.Sprintf("0 begin%s !<%X> end%s", name, "end"+name, name), api.ErrCode)
		checkErr(t, "0 begin"+name+"!", api.ErrShort)
		checkErr(t, "0 begin"+name+" !", api.ErrShort)
		check(t, "0 begin"+name+" end"+name+" end"+name, section(kind, 2))
	}
}

// P5.2: codes of 1 to 4 bytes, at each place where one stands.
func TestCodes(t *testing.T) {
	right := map[string]api.Code{
		"<00>": code(1, 0), "<FF>": code(1, 255), "<0000>": code(2, 0), "<0005>": code(2, 5), "<8140>": code(2, 0x8140), "<010203>": code(3, 0x010203), "<00000000>": code(4, 0), "<01020304>": code(4, 0x01020304), "<FFFFFFFF>": code(4, 1<<32-1), "<5>": code(1, 0x50),
	}
	for s, c := range right {
		checkEntry(t, Space, s+" "+s, Ent{Lo: c, Hi: c})
		checkEntry(t, CidRange, s+" "+s+" 65535", Ent{Lo: c, Hi: c, To: 65535})
		checkEntry(t, NotRange, s+" "+s+" 3", Ent{Lo: c, Hi: c, To: 3})
		checkEntry(t, CidChar, s+" 3", Ent{Lo: c, Hi: c, To: 3})
		checkEntry(t, NotChar, s+" 3", Ent{Lo: c, Hi: c, To: 3})
		checkEntry(t, BfRange, s+" "+s+" <FFFF>", Ent{Lo: c, Hi: c, U: []int{0xFFFF}})
		checkEntry(t, BfRange, s+" "+s+" [<FFFF>]", Ent{Lo: c, Hi: c, L: [][]int{{0xFFFF}}})
		checkEntry(t, BfChar, s+" <FFFF>", Ent{Lo: c, Hi: c, U: []int{0xFFFF}})
	}
	for kind := range names {
		for _, s := range []string{"<>", "< >", "<0102030405>", "<0000000000>", "<000102030405060708>"} {
			checkWrong(t, kind, "!"+s, api.ErrCode)
			checkWrong(t, kind, "!"+s+" "+s+" 5", api.ErrCode)
			checkWrong(t, kind, "!"+s+" <05> <0041>", api.ErrCode)
		}
	}
	for _, kind := range []int{Space, CidRange, NotRange, BfRange} {
		for _, s := range []string{
			"<05> !<>", "<05> !<0005>", "<05> !<0006>", "<0005> !<06>", "<0005> !<000006>", "<000005> !<00000006>", "<00000005> !<000006>", "<00000005> !<0000000006>", "<01020304> !<0102030405>", "<05> !<0000000006>",
			"<0005> !<04>", "<05> !<0004>",
		} {
			checkWrong(t, kind, s, api.ErrCode)
			checkWrong(t, kind, s+" 65536", api.ErrCode)
		}
	}
}

// P5.2: of a Space no byte of Hi is below that of Lo; of a range Hi is not below Lo as a number.
func TestRange(t *testing.T) {
	lo := "<80807F80>"
	four := code(4, 0x80807F80)
	for s, v := range map[string]int{"<80807F80>": 0x80807F80, "<FFFFFFFF>": 0xFFFFFFFF, "<81807F80>": 0x81807F80, "<80817F80>": 0x80817F80, "<80808080>": 0x80808080, "<80807F81>": 0x80807F81} {
		checkEntry(t, Space, lo+" "+s, Ent{Lo: four, Hi: code(4, v)})
	}
	for _, s := range []string{"<7F807F80>", "<807F7F80>", "<80807E80>", "<80807F7F>", "<FF7FFFFF>", "<FFFF7EFF>", "<FFFFFF7F>", "<7FFFFFFF>", "<00000000>"} {
		checkWrong(t, Space, lo+" !"+s, api.ErrRange)
	}
	checkWrong(t, Space, "<05> !<04>", api.ErrRange)
	checkWrong(t, Space, "<0080> !<0170>", api.ErrRange)
	checkWrong(t, Space, "<0100> !<00FF>", api.ErrRange)
	checkEntry(t, Space, "<00000000> <FFFFFFFF>", Ent{Lo: code(4, 0), Hi: code(4, 1<<32-1)})
	checkEntry(t, NotRange, "<00000000> <FFFFFFFF> 7", Ent{Lo: code(4, 0), Hi: code(4, 1<<32-1), To: 7})
	checkEntry(t, NotRange, "<0080> <0170> 65535", Ent{Lo: code(2, 0x80), Hi: code(2, 0x170), To: 65535})
	checkEntry(t, CidRange, "<0080> <0170> 0", Ent{Lo: code(2, 0x80), Hi: code(2, 0x170)})
	checkEntry(t, CidRange, "<01FF> <0200> 0", Ent{Lo: code(2, 0x1FF), Hi: code(2, 0x200)})
	checkEntry(t, BfRange, "<01FF> <0200> <0041>", Ent{Lo: code(2, 0x1FF), Hi: code(2, 0x200), U: []int{0x41}})
	for _, kind := range []int{CidRange, NotRange, BfRange} {
		for _, s := range []string{"<05> !<04>", "<0100> !<00FF>", "<01FF> !<0100>", "<FFFFFFFF> !<FFFFFFFE>", "<80000000> !<7FFFFFFF>", "<05> !<00>", "<05> !<04> x"} {
			checkWrong(t, kind, s, api.ErrRange)
		}
	}
}

// P5.2: the number that codes go to.
func TestTo(t *testing.T) {
	for _, kind := range []int{CidRange, NotRange, CidChar, NotChar} {
		codes, c := "<05> ", code(1, 5)
		if kind == CidRange || kind == NotRange {
			codes += "<05> "
		}
		for _, n := range []int{0, 1, 65534, 65535} {
			checkEntry(t, kind, codes+strconv.Itoa(n), Ent{Lo: c, Hi: c, To: n})
		}
		for _, n := range []string{"-1", "65536", "65537", "2147483647", "-2147483648"} {
			checkWrong(t, kind, codes+"!"+n, api.ErrRange)
			checkErr(t, "1 begin"+names[kind]+" "+codes+"!"+n, api.ErrRange)
		}
	}
	lo, hi := code(1, 5), code(1, 7)
	checkEntry(t, CidRange, "<05> <07> 0", Ent{Lo: lo, Hi: hi})
	checkEntry(t, CidRange, "<05> <07> 65533", Ent{Lo: lo, Hi: hi, To: 65533})
	checkEntry(t, CidRange, "<0000> <FFFF> 0", Ent{Lo: code(2, 0), Hi: code(2, 65535)})
	checkEntry(t, CidRange, "<FFFF0000> <FFFFFFFF> 0", Ent{Lo: code(4, 0xFFFF0000), Hi: code(4, 0xFFFFFFFF)})
	for _, s := range []string{
		"<05> <07> !65534", "<05> <07> !65535", "<05> <07> !65536", "<05> <07> !-1", "<05> <07> !-2", "<0000> <FFFF> !1", "<0000> <FFFF> !-1", "<000000> <010000> !0", "<000000> <010000> !-1", "<00000000> <FFFFFFFF> !0", "<00000000> <FFFFFFFF> !65535",
	} {
		checkWrong(t, CidRange, s, api.ErrRange)
	}
	checkEntry(t, NotRange, "<05> <07> 65534", Ent{Lo: lo, Hi: hi, To: 65534})
	checkEntry(t, NotRange, "<000000> <010000> 0", Ent{Lo: code(3, 0), Hi: code(3, 65536)})
	for _, s := range []string{"<05> <07> !65536", "<05> <07> !-1", "<00000000> <FFFFFFFF> !65536"} {
		checkWrong(t, NotRange, s, api.ErrRange)
	}
	// No source has such numbers, but a token may.
	for _, n := range []int{math.MinInt, -1 << 40, 1 << 32, 1<<32 + 5, math.MaxInt, math.MaxInt - 2} {
		for _, kind := range []int{CidRange, NotRange} {
			l := toks(t, around(kind, "<05> <07> 1"))
			l[4].N = n
			checkToks(t, l, 99, nil, l[4].At, api.ErrRange)
		}
		for _, kind := range []int{CidChar, NotChar} {
			l := toks(t, around(kind, "<05> 1"))
			l[3].N = n
			checkToks(t, l, 99, nil, l[3].At, api.ErrRange)
		}
	}
}

// P5.2: units.
func TestUnits(t *testing.T) {
	c := code(1, 5)
	for _, n := range []int{1, 2, 3, 63, 64} {
		s := "<" + strings.Repeat("1234", n) + ">"
		u := slices.Repeat([]int{0x1234}, n)
		checkEntry(t, BfChar, "<05> "+s, Ent{Lo: c, Hi: c, U: u})
		checkEntry(t, BfRange, "<05> <05> "+s, Ent{Lo: c, Hi: c, U: u})
		checkEntry(t, BfRange, "<05> <05> ["+s+"]", Ent{Lo: c, Hi: c, L: [][]int{u}})
	}
	wrong := []string{"<>", "< >", "<41>", "<4>", "<004100>", "<00410>", "<" + strings.Repeat("0041", 65) + ">", "<" + strings.Repeat("0041", 64) + "00>", "<" + strings.Repeat("0041", 63) + "00>", "<" + strings.Repeat("0041", 300) + ">"}
	for _, s := range wrong {
		checkWrong(t, BfChar, "<05> !"+s, api.ErrForm)
		checkWrong(t, BfRange, "<05> <06> !"+s, api.ErrForm)
		checkWrong(t, BfRange, "<05> <06> [!"+s+" <0041>]", api.ErrForm)
		checkWrong(t, BfRange, "<05> <06> [<0041> !"+s+"]", api.ErrForm)
		checkWrong(t, BfRange, "<05> <06> [<0041> <0041> !"+s, api.ErrForm)
	}
	checkEntry(t, BfChar, "<05> <0000DC00D800FFFF>", Ent{Lo: c, Hi: c, U: []int{0, 0xDC00, 0xD800, 0xFFFF}})
}

// P5.2: a last unit that goes up with the codes.
func TestLastUnit(t *testing.T) {
	lo, hi := code(1, 5), code(1, 7)
	checkEntry(t, BfRange, "<05> <07> <FFFD>", Ent{Lo: lo, Hi: hi, U: []int{0xFFFD}})
	checkEntry(t, BfRange, "<05> <07> <FFFFFFFD>", Ent{Lo: lo, Hi: hi, U: []int{0xFFFF, 0xFFFD}})
	checkEntry(t, BfRange, "<05> <07> <00FE>", Ent{Lo: lo, Hi: hi, U: []int{0xFE}})
	checkEntry(t, BfRange, "<05> <07> <D83DDFFE>", Ent{Lo: lo, Hi: hi, U: []int{0xD83D, 0xDFFE}})
	checkEntry(t, BfRange, "<0000> <FFFF> <0000>", Ent{Lo: code(2, 0), Hi: code(2, 65535), U: []int{0}})
	for _, s := range []string{"<05> <07> !<FFFE>", "<05> <07> !<FFFF>", "<05> <07> !<0041FFFE>", "<05> <06> !<FFFF>", "<0000> <FFFF> !<0001>", "<000000> <010000> !<0000>", "<00000000> <FFFFFFFF> !<0000>", "<00000000> <FFFFFFFF> !<0041FFFF>"} {
		checkWrong(t, BfRange, s, api.ErrRange)
	}
	// In a list no unit goes up.
	checkEntry(t, BfRange, "<05> <07> [<FFFF><FFFE><FFFF>]", Ent{Lo: lo, Hi: hi, L: [][]int{{0xFFFF}, {0xFFFE}, {0xFFFF}}})
}

// P5.2: lists of units.
func TestList(t *testing.T) {
	for n := 1; n <= 256; n += 17 {
		var l [][]int
		s := fmt.Sprintf("<00> <%02X> [", n-1)
		for i := range n {
			l = append(l, []int{i, 0x41})
			s += fmt.Sprintf("<%04X0041>", i)
		}
		want := Ent{Lo: code(1, 0), Hi: code(1, n-1), L: l}
		checkEntry(t, BfRange, s+"]", want)
		checkWrong(t, BfRange, s+"<0041>!]", api.ErrCount)
		checkWrong(t, BfRange, s[:len(s)-len("<00000041>")]+"!]", api.ErrCount)
	}
	for _, s := range []string{"<05> <05> [!]", "<05> <06> [!]", "<05> <06> [<0041>!]", "<05> <06> [<0041> <0042> <0043> !]", "<00000000> <FFFFFFFF> [<0041> !]", "<00000000> <FFFFFFFF> [!]", "<0000> <0100> [<0041>!]"} {
		checkWrong(t, BfRange, s, api.ErrCount)
	}
	for _, s := range []string{
		"<05> <06> [!5]", "<05> <06> [!/A]", "<05> <06> [!(A)]", "<05> <06> [![<0041>]]", "<05> <06> [!x]", "<05> <06> [!<<>>]", "<05> <06> [!{}]", "<05> <06> [<0041> !}", "<05> <06> [<0041> !>>", "<05> <06> [<0041> !endbfrange", "<05> <06> [<0041> <0042> !endbfrange", "<05> <06> [<0041> <0042> !5]",
		"<05> <06> !{<0041> <0042>}", "<05> <06> !<<<0041> <0042>>>", "<05> <06> !]", "<05> <06> <0041> !]", "<05> <06> <0041> ![", "<05> <06> [<0041> <0042>] !]", "<05> <06> [<0041> <0042>] ![",
	} {
		checkWrong(t, BfRange, s, api.ErrForm)
	}
	for _, s := range []string{"<05> <06> [!", "<05> <06> [<0041>!", "<05> <06> [<0041> <0042> !", "<05> <06> [<0041> <0042> <0043> !"} {
		checkErr(t, "1 beginbfrange "+s, api.ErrShort)
	}
	check(t, "2 beginbfrange <05> <06> [<0041> <0042>] <07> <07> <0043> endbfrange", section(BfRange, 2, Ent{Lo: code(1, 5), Hi: code(1, 6), L: [][]int{{0x41}, {0x42}}}, Ent{Lo: code(1, 7), Hi: code(1, 7), U: []int{0x43}}))
	// A list is no pair of those that words are deep in.
	checkErr(t, "1 beginbfrange <05> <05> [<0041>] endbfrange !]", api.ErrForm)
	check(t, strings.Repeat("[", 32)+strings.Repeat("]", 32)+" 1 beginbfrange <05> <05> [<0041>] endbfrange", section(BfRange, 67, Ent{Lo: code(1, 5), Hi: code(1, 5), L: [][]int{{0x41}}}))
}

// others are tokens of all kinds, and of none.
func others() (l []api.Tok) {
	for kind := -2; kind < 14; kind++ {
		l = append(l, api.Tok{Kind: kind, S: "x"}, api.Tok{Kind: kind, N: 1, S: "\x00\x41"}, api.Tok{Kind: kind, N: -1, S: "usecmap"})
	}
	return append(l, api.Tok{Kind: math.MinInt, S: "x"}, api.Tok{Kind: math.MaxInt, S: "x"}, api.Tok{Kind: 256 + tok.Hex, S: "A"}, api.Tok{Kind: 1<<32 + tok.Int})
}

// P5.2: a token of another kind at each place of each kind of entry, and the end at each such place.
func TestEachPlace(t *testing.T) {
	for _, x := range []struct {
		kind  int
		entry string
		toks  [][]int // the kinds that may stand at each place
	}{
		{Space, "<05> <06>", [][]int{{tok.Hex}, {tok.Hex}}},
		{CidRange, "<05> <06> 7", [][]int{{tok.Hex}, {tok.Hex}, {tok.Int}}},
		{CidChar, "<05> 7", [][]int{{tok.Hex}, {tok.Int}}},
		{NotRange, "<05> <06> 7", [][]int{{tok.Hex}, {tok.Hex}, {tok.Int}}},
		{NotChar, "<05> 7", [][]int{{tok.Hex}, {tok.Int}}},
		{BfRange, "<05> <06> <0041>", [][]int{{tok.Hex}, {tok.Hex}, {tok.Hex, tok.Open}}},
		{BfRange, "<05> <06> [<0041> <0042>]", [][]int{{tok.Hex}, {tok.Hex}, {tok.Hex, tok.Open}, {tok.Hex, tok.Close}, {tok.Hex, tok.Close}, {tok.Hex, tok.Close}}},
		{BfChar, "<05> <0041>", [][]int{{tok.Hex}, {tok.Hex}}},
	} {
		for ahead := range 3 {
			s := fmt.Sprintf("%d begin%s %s %s end%s", ahead+1, names[x.kind], strings.Repeat(x.entry+" ", ahead), x.entry, names[x.kind])
			l := toks(t, s)
			first := 2 + ahead*len(x.toks)
			for i, kinds := range x.toks {
				at := first + i
				checkToks(t, l[:at], 77, nil, 77, api.ErrShort)
				checkToks(t, l[:at], -77, nil, -77, api.ErrShort)
				for _, y := range others() {
					y.At = 1000 + at
					changed := slices.Concat(l[:at], []api.Tok{y}, l[at+1:])
					if !slices.Contains(kinds, y.Kind) {
						checkToks(t, changed, 77, nil, y.At, api.ErrForm)
						checkToks(t, changed[:at+1], 77, nil, y.At, api.ErrForm)
					}
					checkPlain(t, changed, 77)
				}
			}
			checkToks(t, l[:len(l)-1], 77, nil, 77, api.ErrShort)
		}
	}
}

// P5.1, P5.2: the first error is told, and no item, however many are right ahead of it and behind it.
func TestFirstError(t *testing.T) {
	right := "/A 5 def /A usecmap 1 begincidchar <05> 1 endcidchar "
	for s, e := range map[string]api.Errno{
		"!usecmap": api.ErrForm, "!]": api.ErrForm, "1 !101 beginbfchar": api.ErrCount, "1 begincidchar !<> 1 endcidchar": api.ErrCode, "1 begincidchar <05> !65536 endcidchar": api.ErrRange, strings.Repeat("{", 32) + "!{": api.ErrDeep,
		"2 begincidchar <05> 1 !endcidchar": api.ErrCount, "1 begincidrange <05> !<04> x": api.ErrRange, "2 beginbfrange <05> <05> [<0041>] <05> <05> [!]": api.ErrCount, "1 begincidchar <05> !x 1 begincidchar <>": api.ErrForm,
		// An entry too many is looked at ahead of how many there are.
		"0 begincidchar !<> 1 endcidchar": api.ErrCode, "0 begincidchar <05> !-1 endcidchar": api.ErrRange, "1 begincidchar <05> 1 <05> !x endcidchar": api.ErrForm,
	} {
		checkErr(t, s, e)
		checkErr(t, right+s, e)
		checkErr(t, right+s+" "+right, e)
		checkErr(t, s+" usecmap ] "+right, e)
	}
	checkErr(t, right+"1 begincidchar <05> 1!", api.ErrShort)
	checkErr(t, right+"[ "+right+"!", api.ErrShort)
	// What is short at the end is told only where nothing else is wrong.
	checkErr(t, "[ ] !usecmap [", api.ErrForm)
}

// P5.1: At, of tokens and of the end, is told as it stands, whatever it is.
func TestPlaces(t *testing.T) {
	for _, by := range []int{0, 1, -1, 1 << 40, math.MinInt, math.MaxInt - 300} {
		for _, x := range whole {
			l := toks(t, x.s)
			for i := range l {
				l[i].At += by
			}
			checkToks(t, l, by-5, []Item{moved(x.x, by)}, by-5, api.OK)
		}
	}
	same := []api.Tok{{Kind: tok.Name, At: 3, S: "A"}, {Kind: tok.Word, At: 3, S: "usecmap"}, {Kind: tok.Word, At: 3, S: "usecmap"}}
	checkToks(t, same, 3, nil, 3, api.ErrForm)
	checkToks(t, same[:2], 0, []Item{{Kind: Use, At: 3, Name: "A"}}, 0, api.OK)
}

// eachList calls f with every list of at most n of those tokens, each at a place of its own.
func eachList(from []api.Tok, n int, f func([]api.Tok)) {
	l := make([]api.Tok, 0, n)
	var more func()
	more = func() {
		f(l)
		if len(l) == n {
			return
		}
		for _, x := range from {
			x.At = 10 * (len(l) + 1)
			l = append(l, x)
			more()
			l = l[:len(l)-1]
		}
	}
	more()
}

// P5.1 to P5.4: all short lists of tokens, held against the plain model.
func TestShortLists(t *testing.T) {
	from := toks(t, "0 1 /A (x) <05> <0006> [ ] << >> { } def usecmap begincidchar endcidchar beginbfrange endbfrange x")
	from = append(from, api.Tok{}, api.Tok{Kind: 12})
	eachList(from, 4, func(l []api.Tok) { checkPlain(t, l, 99) })
}

// P5.2, P5.4: all short lists of tokens in each section, held against the plain model.
func TestShortSections(t *testing.T) {
	for _, name := range names {
		head := toks(t, "1 begin"+name)
		from := toks(t, "<05> <06> <0006> <FFFF> 7 65535 [ ] end"+name)
		eachList(from, 5, func(l []api.Tok) {
			checkPlain(t, slices.Concat(head, l), 99)
			checkPlain(t, slices.Concat(head, l, from[len(from)-1:]), 99)
		})
	}
}

// P5.1, P5.2: sources with one token out, in or changed, held against the plain model.
func TestOneOff(t *testing.T) {
	var s string
	for _, x := range whole {
		s += x.s + " "
	}
	s += "[ /A 5 ] << >> { 2 begincidchar }"
	l := toks(t, s)
	more := append(others(), l...)
	checkPlain(t, l, len(s))
	for i := range l {
		checkPlain(t, l[:i], len(s))
		checkPlain(t, l[i:], len(s))
		checkPlain(t, slices.Concat(l[:i], l[i+1:]), len(s))
		for _, x := range more {
			checkPlain(t, slices.Concat(l[:i], []api.Tok{x}, l[i:]), len(s))
			checkPlain(t, slices.Concat(l[:i], []api.Tok{x}, l[i+1:]), len(s))
		}
	}
}

// P5.4: as many entries as were told, each of which may be; the same tokens are the same items again.
func TestFollows(t *testing.T) {
	for kind := range names {
		for n := range 101 {
			s := strings.Replace(many(kind, n, n), "!", "", 1)
			l := toks(t, s)
			got, _, e := Parse(l, len(s))
			if e != api.OK || len(got) != 1 || len(got[0].Ents) != l[0].N {
				t.Fatalf("Parse(%q) = %+v, %d", s, got, e)
			}
			checkItem(t, l, got[0])
			again, _, _ := Parse(l, len(s))
			if !slices.EqualFunc(got, again, sameItem) {
				t.Fatalf("Parse(%q) = %+v, then %+v", s, got, again)
			}
		}
	}
}

// R3: what is handed in stays as it is.
func TestArgumentStays(t *testing.T) {
	for _, x := range whole {
		l := toks(t, x.s+" [ { } ] "+x.s)
		kept := slices.Clone(l)
		Parse(l, 9)
		if !slices.Equal(l, kept) {
			t.Fatalf("Parse changed %+v to %+v", kept, l)
		}
	}
}

// P1: the longest lists of tokens that a source may have.
func TestLong(t *testing.T) {
	for _, s := range []string{"1 begincidchar", "[ ] /A 5 def", "usecmap", "0 beginbfchar endbfchar", "{"} {
		l := toks(t, s)
		l = slices.Repeat(l, 65536/len(l))
		checkPlain(t, l, 5)
	}
	l := slices.Concat(toks(t, "1 beginbfrange <00000000> <FFFFFFFF> ["), slices.Repeat(toks(t, "<0041>"), 65000))
	checkToks(t, l, 5, nil, 5, api.ErrShort)
	l = slices.Concat(toks(t, "1 begincidchar"), slices.Repeat(toks(t, "<05> 1"), 30000), toks(t, "endcidchar"))
	l[len(l)-1].At = 4321
	checkToks(t, l, 5, nil, 4321, api.ErrCount)
	long := []api.Tok{{Kind: tok.Int, N: 1}, {Kind: tok.Word, S: "beginbfchar"}, {Kind: tok.Hex, S: "A"}, {Kind: tok.Hex, At: 8, S: strings.Repeat("A", 1<<20)}}
	checkToks(t, long, 5, nil, 8, api.ErrForm)
}

// fromBytes makes tokens of bytes: by sources where they are ones, and of any kind else.
func fromBytes(b []byte) (l []api.Tok) {
	pieces := []string{"x", "def", "usecmap", "\x05", "\x06", "\x00\x41", "", "\xFF\xFF"}
	for kind := range names {
		pieces = append(pieces, "begin"+names[kind], "end"+names[kind])
	}
	slices.Sort(pieces)
	for i := 0; i+1 < len(b); i += 2 {
		l = append(l, api.Tok{Kind: int(b[i]%14) - 1, At: i, N: int(int8(b[i+1])), S: pieces[int(b[i+1])%len(pieces)]})
	}
	return l
}

func FuzzBytes(f *testing.F) {
	for _, x := range whole {
		f.Add([]byte(x.s))
	}
	f.Add([]byte("1 beginbfrange <05> <06> [<0041> 5] endbfrange"))
	f.Add([]byte(strings.Repeat("[", 33)))
	f.Fuzz(func(t *testing.T, b []byte) {
		if l, n, e := tok.All(string(b)); e == api.OK {
			checkPlain(t, l, n)
		}
		checkPlain(t, fromBytes(b), len(b))
		if len(b) > 0 {
			Begin(int(b[0]))
		}
	})
}

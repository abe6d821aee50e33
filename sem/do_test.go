package sem

import (
	"math"
	"math/rand"
	"slices"
	"testing"

	"hornbook/api"
	"hornbook/dest"
	"hornbook/rect"
	"hornbook/span"
	"hornbook/syn"
	"hornbook/tok"
)

// checkSame holds Do of an item that does nothing at tables of all kinds.
func checkSame(t *testing.T, x syn.Item) {
	t.Helper()
	for _, tab := range tables() {
		checkDo(t, tab, x, tab)
	}
}

// P9.2: the name.
func TestDoName(t *testing.T) {
	for _, name := range []string{"A", "", "A b", "\x00\xff", "CMapName", "WMode", "0", "Identity-H"} {
		for _, tab := range tables() {
			want := tab
			want.Name = name
			checkDo(t, tab, def("CMapName", nameTok(name)), want)
			checkDo(t, tab, def("CMapName", api.Tok{Kind: tok.Name, At: 70, N: 1, S: name}), want)
			checkDo(t, want, def("CMapName", nameTok(name)), want)
		}
		for kind := -1; kind <= 12; kind++ {
			if kind != tok.Name {
				checkSame(t, def("CMapName", api.Tok{Kind: kind, S: name, N: 1}))
			}
		}
	}
	checkSame(t, def("CMapName", api.Tok{}))
}

// P9.2: the mode.
func TestDoMode(t *testing.T) {
	for _, n := range []int{math.MinInt, -1 << 32, -2, -1, 0, 1, 2, 3, 256, 1 << 32, 1<<32 + 1, math.MaxInt} {
		for _, tab := range tables() {
			want := tab
			if n == 0 || n == 1 {
				want.Wmode = n
			}
			checkDo(t, tab, def("WMode", intTok(n)), want)
			checkDo(t, tab, def("WMode", api.Tok{Kind: tok.Int, At: 9, N: n, S: "A"}), want)
		}
		for kind := -1; kind <= 12; kind++ {
			if kind != tok.Int {
				checkSame(t, def("WMode", api.Tok{Kind: kind, N: n, S: "1"}))
			}
		}
	}
	checkSame(t, def("WMode", api.Tok{}))
}

// P9.2: definitions of all other names do nothing, nor does what else stands in an item.
func TestDoOtherDef(t *testing.T) {
	for _, name := range []string{"", "CMapNam", "CMapName ", "cmapname", "CMapVersion", "CMapType", "Wmode", "WMODE", "WMode\x00", "Registry", "\xff"} {
		for _, val := range []api.Tok{nameTok("A"), intTok(0), intTok(1), {Kind: tok.Str, S: "A"}, {}} {
			checkSame(t, def(name, val))
		}
	}
	for _, tab := range tables() {
		x := def("CMapName", nameTok("A"))
		x.At, x.Ents = 99, others()[syn.Space+2].Ents
		want := tab
		want.Name = "A"
		checkDo(t, tab, x, want)
		x.Name = "CMapNames"
		checkDo(t, tab, x, tab)
	}
}

// P9.2: a use, and no kind at all.
func TestDoNothing(t *testing.T) {
	for _, kind := range append([]int{syn.Use}, noKinds...) {
		for _, x := range others() {
			x.Kind = kind
			checkSame(t, x)
		}
		checkSame(t, syn.Item{Kind: kind})
	}
	checkSame(t, syn.Item{})
}

// P9.2: what else stands in a section does nothing.
func TestDoSectionOnly(t *testing.T) {
	for kind := syn.Space; kind <= syn.BfChar; kind++ {
		for _, val := range []api.Tok{nameTok("A"), intTok(1)} {
			for _, name := range []string{"CMapName", "WMode"} {
				for _, tab := range tables() {
					x := section(kind, to(1, 5, 9, 3), uni(1, 5, 9, 3))
					want := plainDo(tab, x)
					x.At, x.Name, x.Val = 7, name, val
					checkDo(t, tab, x, want)
				}
			}
		}
	}
}

// P9.2: the numbers of an entry, and nothing else of it, are those of the kind.
func TestDoFields(t *testing.T) {
	e := syn.Ent{Lo: code(2, 0x4142), Hi: code(2, 0x4344), To: 7, U: []int{0x61, 0x62}}
	for kind := syn.Space; kind <= syn.BfChar; kind++ {
		want := [...]Table{
			2: {Spaces: []api.Rect{{N: 2, Lo: 0x4142, Hi: 0x4344}}},
			3: {Cids: []api.Span{{N: 2, Lo: 0x4142, Hi: 0x4344, To: 7}}}, 4: {Cids: []api.Span{{N: 2, Lo: 0x4142, Hi: 0x4344, To: 7}}},
			5: {Nots: []api.Span{{N: 2, Lo: 0x4142, Hi: 0x4344, To: 7}}}, 6: {Nots: []api.Span{{N: 2, Lo: 0x4142, Hi: 0x4344, To: 7}}},
			7: {Bfs: []api.Bf{bf(2, 0x4142, 0x4344, 0x61, 0x62)}}, 8: {Bfs: []api.Bf{bf(2, 0x4142, 0x4344, 0x61, 0x62)}},
		}[kind]
		checkDo(t, Table{}, section(kind, e), want)
		x := e
		if kind < syn.BfRange {
			x.L = [][]int{{1}, {2}}
			checkDo(t, Table{}, section(kind, x), want)
			x.U, x.L = nil, nil
			checkDo(t, Table{}, section(kind, x), want)
		} else {
			x.To = -99
			checkDo(t, Table{}, section(kind, x), want)
		}
		// how many bytes is told by Lo alone
		for _, n := range []int{math.MinInt, -1, 0, 1, 3, 4, 5, math.MaxInt} {
			x = e
			x.Hi.N = n
			checkDo(t, Table{}, section(kind, x), want)
			x.Lo.N, x.Hi.N = n, 2
			if n < 2 || n > 4 {
				checkDo(t, Table{}, section(kind, x), Table{})
			}
		}
		x = e
		x.Lo.N, x.Hi.N = 4, 1
		checkDo(t, Table{}, section(kind, x), plainDo(Table{}, section(kind, syn.Ent{Lo: code(4, 0x4142), Hi: code(4, 0x4344), To: 7, U: e.U})))
		// an entry with nothing in it
		checkDo(t, Table{}, section(kind, syn.Ent{}), Table{})
		checkDo(t, Table{}, section(kind, syn.Ent{}, e, syn.Ent{}), want)
		checkDo(t, want, section(kind, syn.Ent{}), want)
	}
}

// spaceCases are codespaces, entries behind them, and what comes of it.
var spaceCases = []struct {
	was  []api.Rect
	l    []syn.Ent
	want []api.Rect
}{
	{nil, nil, nil}, {nil, []syn.Ent{}, nil}, {[]api.Rect{}, nil, nil},
	{nil, []syn.Ent{rng(1, 0, 0x80)}, []api.Rect{{N: 1, Lo: 0, Hi: 0x80}}},
	{[]api.Rect{{N: 1, Lo: 0, Hi: 0x80}}, nil, []api.Rect{{N: 1, Lo: 0, Hi: 0x80}}},
	// in order, however they come
	{nil, []syn.Ent{rng(2, 0x8140, 0x9FFC), rng(1, 0x90, 0x99), rng(1, 0, 0x80)}, []api.Rect{{N: 1, Lo: 0, Hi: 0x80}, {N: 1, Lo: 0x90, Hi: 0x99}, {N: 2, Lo: 0x8140, Hi: 0x9FFC}}},
	{[]api.Rect{{N: 2, Lo: 0x8140, Hi: 0x9FFC}}, []syn.Ent{rng(1, 0, 0x80), rng(4, 5, 9)}, []api.Rect{{N: 1, Lo: 0, Hi: 0x80}, {N: 2, Lo: 0x8140, Hi: 0x9FFC}, {N: 4, Lo: 5, Hi: 9}}},
	// one that lies in one that is there, one in which that lies, and the same one
	{[]api.Rect{{N: 1, Lo: 0, Hi: 255}}, []syn.Ent{rng(1, 0x20, 0x40)}, []api.Rect{{N: 1, Lo: 0, Hi: 255}}},
	{[]api.Rect{{N: 1, Lo: 0x20, Hi: 0x40}}, []syn.Ent{rng(1, 0, 255)}, []api.Rect{{N: 1, Lo: 0, Hi: 255}}},
	{[]api.Rect{{N: 1, Lo: 0x20, Hi: 0x40}}, []syn.Ent{rng(1, 0x20, 0x40)}, []api.Rect{{N: 1, Lo: 0x20, Hi: 0x40}}},
	{[]api.Rect{{N: 1, Lo: 0x20, Hi: 0x40}, {N: 1, Lo: 0x50, Hi: 0x60}}, []syn.Ent{rng(1, 0x20, 0x60), rng(2, 0, 0)}, []api.Rect{{N: 1, Lo: 0x20, Hi: 0x60}, {N: 2}}},
	{[]api.Rect{{N: 2, Lo: 0x8140, Hi: 0x9FFC}}, []syn.Ent{rng(2, 0x8150, 0x8260), rng(2, 0x8130, 0x8260)}, []api.Rect{{N: 2, Lo: 0x8130, Hi: 0x8260}, {N: 2, Lo: 0x8140, Hi: 0x9FFC}}},
	// in one another, the same one twice, side by side and over one another, in one section
	{nil, []syn.Ent{rng(1, 0, 255), rng(1, 5, 9), rng(1, 7, 7)}, []api.Rect{{N: 1, Lo: 0, Hi: 255}}},
	{nil, []syn.Ent{rng(1, 7, 7), rng(1, 5, 9), rng(1, 0, 255)}, []api.Rect{{N: 1, Lo: 0, Hi: 255}}},
	{nil, []syn.Ent{rng(1, 5, 9), rng(1, 5, 9), rng(2, 5, 9), rng(1, 5, 9)}, []api.Rect{{N: 1, Lo: 5, Hi: 9}, {N: 2, Lo: 5, Hi: 9}}},
	{nil, []syn.Ent{rng(1, 10, 20), rng(1, 0, 9)}, []api.Rect{{N: 1, Lo: 0, Hi: 9}, {N: 1, Lo: 10, Hi: 20}}},
	{nil, []syn.Ent{rng(1, 5, 20), rng(1, 0, 9)}, []api.Rect{{N: 1, Lo: 0, Hi: 9}, {N: 1, Lo: 5, Hi: 20}}},
	// some that may not be
	{nil, []syn.Ent{rng(1, 9, 5), rng(1, 0, 256), rng(1, -1, 5), rng(0, 0, 0), rng(5, 0, 0), rng(2, 0x8140, 0x9F20), rng(math.MaxInt, math.MinInt, math.MaxInt), {}}, nil},
	{[]api.Rect{{N: 1, Lo: 0, Hi: 9}}, []syn.Ent{rng(2, 0x8140, 0x9F20), rng(2, 0, 9), rng(1, 9, 5)}, []api.Rect{{N: 1, Lo: 0, Hi: 9}, {N: 2, Lo: 0, Hi: 9}}},
	{nil, []syn.Ent{{Lo: code(1, 0), Hi: code(2, 300)}, {Lo: code(2, 0), Hi: code(1, 300)}}, []api.Rect{{N: 2, Lo: 0, Hi: 300}}},
	{nil, []syn.Ent{{Lo: code(1, 5), Hi: code(2, 9)}, {Lo: code(2, 0x0105), Hi: code(1, 0x0209)}}, []api.Rect{{N: 1, Lo: 5, Hi: 9}, {N: 2, Lo: 0x0105, Hi: 0x0209}}},
	// behind some that are no table
	{[]api.Rect{{N: 2, Lo: 0, Hi: 9}, {N: 1, Lo: 3, Hi: 4}, {N: 1, Lo: 0, Hi: 9}, {N: 2, Lo: 0, Hi: 9}, {N: 9}}, nil, []api.Rect{{N: 1, Lo: 0, Hi: 9}, {N: 2, Lo: 0, Hi: 9}}},
	{[]api.Rect{{N: 2, Lo: 0, Hi: 9}, {N: 1, Lo: 3, Hi: 4}, {N: 9}}, []syn.Ent{rng(1, 2, 2), rng(9, 0, 0)}, []api.Rect{{N: 1, Lo: 2, Hi: 2}, {N: 1, Lo: 3, Hi: 4}, {N: 2, Lo: 0, Hi: 9}}},
}

// P9.2: codespaces.
func TestDoSpace(t *testing.T) {
	for _, x := range spaceCases {
		for _, tab := range tables() {
			tab.Spaces = x.was
			want := tab
			want.Spaces = x.want
			checkDo(t, tab, section(syn.Space, x.l...), want)
		}
	}
}

// spanCase is spans, entries behind them, and what comes of it.
type spanCase struct {
	was  []api.Span
	l    []syn.Ent
	want []api.Span
}

func s1(lo, hi, num int) api.Span { return api.Span{N: 1, Lo: lo, Hi: hi, To: num} }

// bothCases are those of which the same comes with step and without it.
var bothCases = []spanCase{
	{nil, nil, nil}, {nil, []syn.Ent{}, nil}, {[]api.Span{}, nil, nil},
	{nil, []syn.Ent{to(1, 10, 20, 5)}, []api.Span{s1(10, 20, 5)}},
	{[]api.Span{s1(10, 20, 5)}, nil, []api.Span{s1(10, 20, 5)}},
	{nil, []syn.Ent{to(2, 9, 9, 1), to(1, 30, 30, 0), to(1, 10, 20, 5)}, []api.Span{s1(10, 20, 5), s1(30, 30, 0), {N: 2, Lo: 9, Hi: 9, To: 1}}},
	// ahead of one that is there, behind it, over all of it, the same one, and of another number of bytes
	{[]api.Span{s1(10, 20, 5)}, []syn.Ent{to(1, 2, 9, 90)}, []api.Span{s1(2, 9, 90), s1(10, 20, 5)}},
	{[]api.Span{s1(10, 20, 5)}, []syn.Ent{to(1, 21, 30, 90)}, []api.Span{s1(10, 20, 5), s1(21, 30, 90)}},
	{[]api.Span{s1(10, 20, 5)}, []syn.Ent{to(1, 10, 20, 90)}, []api.Span{s1(10, 20, 90)}},
	{[]api.Span{s1(10, 20, 5)}, []syn.Ent{to(1, 0, 255, 90)}, []api.Span{s1(0, 255, 90)}},
	{[]api.Span{s1(10, 20, 5)}, []syn.Ent{to(1, 10, 20, 5)}, []api.Span{s1(10, 20, 5)}},
	{[]api.Span{s1(10, 20, 5)}, []syn.Ent{to(2, 10, 20, 90), to(4, 0xFFFFFFFF, 0xFFFFFFFF, 65535)}, []api.Span{s1(10, 20, 5), {N: 2, Lo: 10, Hi: 20, To: 90}, {N: 4, Lo: 0xFFFFFFFF, Hi: 0xFFFFFFFF, To: 65535}}},
	// over its last part
	{[]api.Span{s1(10, 20, 5)}, []syn.Ent{to(1, 18, 30, 90)}, []api.Span{s1(10, 17, 5), s1(18, 30, 90)}},
	// the same one twice, and the last one of two
	{nil, []syn.Ent{to(1, 5, 9, 3), to(1, 5, 9, 3)}, []api.Span{s1(5, 9, 3)}},
	{nil, []syn.Ent{to(1, 5, 9, 3), to(1, 5, 9, 4)}, []api.Span{s1(5, 9, 4)}},
	{nil, []syn.Ent{to(1, 6, 7, 3), to(1, 5, 9, 40)}, []api.Span{s1(5, 9, 40)}},
	// some that may not be
	{nil, []syn.Ent{to(1, 9, 5, 3), to(1, 0, 256, 3), to(1, -1, 5, 3), to(1, 5, 9, -1), to(1, 5, 9, 65536), to(0, 0, 0, 0), to(5, 0, 0, 0), to(math.MinInt, math.MaxInt, math.MinInt, math.MaxInt), {}}, nil},
	{[]api.Span{s1(5, 9, 3)}, []syn.Ent{to(1, 5, 9, -1), to(1, 5, 9, 65536), to(1, 0, 256, 7), to(1, 20, 20, 8)}, []api.Span{s1(5, 9, 3), s1(20, 20, 8)}},
	{nil, []syn.Ent{{Lo: code(1, 0), Hi: code(2, 300), To: 3}, {Lo: code(5, 0), Hi: code(1, 3), To: 3}, {Lo: code(1, 5), Hi: code(2, 9), To: 3}}, []api.Span{s1(5, 9, 3)}},
	// behind some that are no table
	{[]api.Span{{N: 2, Lo: 5, Hi: 9, To: 3}, s1(7, 7, 40), s1(9, 8, 1), {N: 7}}, nil, []api.Span{s1(7, 7, 40), {N: 2, Lo: 5, Hi: 9, To: 3}}},
	{[]api.Span{{N: 2, Lo: 5, Hi: 9, To: 3}, s1(7, 7, 40), s1(7, 7, 41)}, []syn.Ent{to(1, 8, 8, 70)}, []api.Span{s1(7, 7, 41), s1(8, 8, 70), {N: 2, Lo: 5, Hi: 9, To: 3}}},
}

// cidCases are those with step.
var cidCases = []spanCase{
	// into the midst of one, and over its first part
	{[]api.Span{s1(10, 20, 5)}, []syn.Ent{to(1, 15, 15, 99)}, []api.Span{s1(10, 14, 5), s1(15, 15, 99), s1(16, 20, 11)}},
	{[]api.Span{s1(10, 20, 5)}, []syn.Ent{to(1, 8, 12, 90)}, []api.Span{s1(8, 12, 90), s1(13, 20, 8)}},
	// in one another, and over one another
	{nil, []syn.Ent{to(1, 0, 9, 10), to(1, 2, 7, 30), to(1, 4, 4, 50)}, []api.Span{s1(0, 1, 10), s1(2, 3, 30), s1(4, 4, 50), s1(5, 7, 33), s1(8, 9, 18)}},
	{nil, []syn.Ent{to(1, 5, 20, 100), to(1, 0, 9, 30)}, []api.Span{s1(0, 9, 30), s1(10, 20, 105)}},
	// some that join, and some beside that
	{nil, []syn.Ent{to(1, 3, 3, 13), to(1, 1, 1, 11), to(1, 2, 2, 12)}, []api.Span{s1(1, 3, 11)}},
	{nil, []syn.Ent{to(1, 1, 1, 11), to(1, 2, 2, 11), to(1, 3, 3, 11)}, []api.Span{s1(1, 1, 11), s1(2, 2, 11), s1(3, 3, 11)}},
	{[]api.Span{s1(1, 4, 11)}, []syn.Ent{to(1, 5, 9, 15)}, []api.Span{s1(1, 9, 11)}},
	{[]api.Span{s1(1, 4, 11)}, []syn.Ent{to(1, 5, 9, 16)}, []api.Span{s1(1, 4, 11), s1(5, 9, 16)}},
	{[]api.Span{s1(1, 4, 11)}, []syn.Ent{to(1, 5, 9, 11)}, []api.Span{s1(1, 4, 11), s1(5, 9, 11)}},
	{[]api.Span{s1(1, 4, 11)}, []syn.Ent{to(1, 6, 9, 16)}, []api.Span{s1(1, 4, 11), s1(6, 9, 16)}},
	{[]api.Span{s1(1, 4, 11), s1(6, 9, 16)}, []syn.Ent{to(1, 5, 5, 15)}, []api.Span{s1(1, 9, 11)}},
	// how far it goes
	{nil, []syn.Ent{to(1, 5, 9, 65531), to(2, 5, 9, 65532)}, []api.Span{s1(5, 9, 65531)}},
	{[]api.Span{s1(5, 9, 3)}, []syn.Ent{to(1, 0, 255, 65281)}, []api.Span{s1(5, 9, 3)}},
	{nil, []syn.Ent{to(4, 0, 0xFFFFFFFF, 0), to(4, 0xFFFF0000, 0xFFFFFFFF, 0)}, []api.Span{{N: 4, Lo: 0xFFFF0000, Hi: 0xFFFFFFFF, To: 0}}},
	// the chapter's example
	{[]api.Span{s1(0x41, 0x41, 7)}, []syn.Ent{to(1, 0x40, 0x42, 1)}, []api.Span{s1(0x40, 0x42, 1)}},
	// behind some that are no table
	{[]api.Span{s1(5, 9, 3), s1(7, 7, 70), s1(10, 10, 8), s1(11, 11, 9)}, nil, []api.Span{s1(5, 6, 3), s1(7, 7, 70), s1(8, 11, 6)}},
}

// notCases are those without step.
var notCases = []spanCase{
	{[]api.Span{s1(10, 20, 5)}, []syn.Ent{to(1, 15, 15, 99)}, []api.Span{s1(10, 14, 5), s1(15, 15, 99), s1(16, 20, 5)}},
	{[]api.Span{s1(10, 20, 5)}, []syn.Ent{to(1, 8, 12, 90)}, []api.Span{s1(8, 12, 90), s1(13, 20, 5)}},
	{[]api.Span{s1(10, 20, 5)}, []syn.Ent{to(1, 12, 13, 5)}, []api.Span{s1(10, 20, 5)}},
	{nil, []syn.Ent{to(1, 0, 9, 10), to(1, 2, 7, 30), to(1, 4, 4, 50)}, []api.Span{s1(0, 1, 10), s1(2, 3, 30), s1(4, 4, 50), s1(5, 7, 30), s1(8, 9, 10)}},
	{nil, []syn.Ent{to(1, 5, 20, 100), to(1, 0, 9, 30)}, []api.Span{s1(0, 9, 30), s1(10, 20, 100)}},
	{nil, []syn.Ent{to(1, 3, 3, 11), to(1, 1, 1, 11), to(1, 2, 2, 11)}, []api.Span{s1(1, 3, 11)}},
	{nil, []syn.Ent{to(1, 1, 1, 11), to(1, 2, 2, 12), to(1, 3, 3, 13)}, []api.Span{s1(1, 1, 11), s1(2, 2, 12), s1(3, 3, 13)}},
	{[]api.Span{s1(1, 4, 11)}, []syn.Ent{to(1, 5, 9, 11)}, []api.Span{s1(1, 9, 11)}},
	{[]api.Span{s1(1, 4, 11)}, []syn.Ent{to(1, 5, 9, 15)}, []api.Span{s1(1, 4, 11), s1(5, 9, 15)}},
	{[]api.Span{s1(1, 4, 11)}, []syn.Ent{to(1, 6, 9, 11)}, []api.Span{s1(1, 4, 11), s1(6, 9, 11)}},
	{[]api.Span{s1(1, 4, 11), s1(6, 9, 11)}, []syn.Ent{to(1, 5, 5, 11)}, []api.Span{s1(1, 9, 11)}},
	{nil, []syn.Ent{to(1, 0, 255, 65535), to(4, 0, 0xFFFFFFFF, 65535)}, []api.Span{s1(0, 255, 65535), {N: 4, Lo: 0, Hi: 0xFFFFFFFF, To: 65535}}},
	{[]api.Span{s1(5, 9, 3), s1(7, 7, 70), s1(10, 10, 3), s1(11, 11, 9)}, nil, []api.Span{s1(5, 6, 3), s1(7, 7, 70), s1(8, 10, 3), s1(11, 11, 9)}},
}

// checkSpans holds Do of sections of some kinds, at tables of all kinds, with x's spans put where these kinds tell.
func checkSpans(t *testing.T, x spanCase, kinds []int, put func(tab *Table, l []api.Span)) {
	t.Helper()
	for _, tab := range tables() {
		put(&tab, x.was)
		want := tab
		put(&want, x.want)
		for _, kind := range kinds {
			checkDo(t, tab, section(kind, x.l...), want)
		}
	}
}

// P9.2: codes that go to numbers, with step: ranges and chars alike.
func TestDoCids(t *testing.T) {
	for _, x := range slices.Concat(bothCases, cidCases) {
		checkSpans(t, x, cidKinds, func(tab *Table, l []api.Span) { tab.Cids = l })
	}
}

// P9.2: codes that go to numbers, without step: ranges and chars alike.
func TestDoNots(t *testing.T) {
	for _, x := range slices.Concat(bothCases, notCases) {
		checkSpans(t, x, notKinds, func(tab *Table, l []api.Span) { tab.Nots = l })
	}
}

// bfCases are codes that go to units, entries behind them, and what comes of it.
var bfCases = []struct {
	was  []api.Bf
	l    []syn.Ent
	want []api.Bf
}{
	{nil, nil, nil}, {nil, []syn.Ent{}, nil}, {[]api.Bf{}, nil, nil},
	// with U
	{nil, []syn.Ent{uni(1, 5, 9, 0x41)}, []api.Bf{bf(1, 5, 9, 0x41)}},
	{nil, []syn.Ent{uni(1, 5, 9, 0x66, 0x41)}, []api.Bf{bf(1, 5, 9, 0x66, 0x41)}},
	{[]api.Bf{bf(1, 5, 9, 0x41)}, nil, []api.Bf{bf(1, 5, 9, 0x41)}},
	{nil, []syn.Ent{uni(2, 5, 5, 7), uni(1, 30, 30, 7), uni(1, 5, 9, 0x41)}, []api.Bf{bf(1, 5, 9, 0x41), bf(1, 30, 30, 7), bf(2, 5, 5, 7)}},
	{nil, []syn.Ent{uni(1, 5, 9, 0x41), uni(1, 5, 9, 0x41)}, []api.Bf{bf(1, 5, 9, 0x41)}},
	{nil, []syn.Ent{uni(1, 0, 9, 0x41), uni(1, 2, 7, 0x61), uni(1, 4, 4, 1, 2)}, []api.Bf{bf(1, 0, 1, 0x41), bf(1, 2, 3, 0x61), bf(1, 4, 4, 1, 2), bf(1, 5, 7, 0x64), bf(1, 8, 9, 0x49)}},
	{nil, []syn.Ent{uni(1, 5, 20, 100), uni(1, 0, 9, 30)}, []api.Bf{bf(1, 0, 9, 30), bf(1, 10, 20, 105)}},
	{nil, []syn.Ent{uni(1, 3, 3, 13), uni(1, 1, 1, 11), uni(1, 2, 2, 12)}, []api.Bf{bf(1, 1, 3, 11)}},
	{nil, []syn.Ent{uni(1, 1, 1, 11), uni(1, 2, 2, 11), uni(1, 3, 3, 4, 12)}, []api.Bf{bf(1, 1, 1, 11), bf(1, 2, 2, 11), bf(1, 3, 3, 4, 12)}},
	// behind one that is there: ahead, behind, in the midst, over all of it, and the same
	{[]api.Bf{bf(1, 10, 20, 5)}, []syn.Ent{uni(1, 2, 9, 90)}, []api.Bf{bf(1, 2, 9, 90), bf(1, 10, 20, 5)}},
	{[]api.Bf{bf(1, 10, 20, 5)}, []syn.Ent{uni(1, 21, 30, 90)}, []api.Bf{bf(1, 10, 20, 5), bf(1, 21, 30, 90)}},
	{[]api.Bf{bf(1, 10, 20, 5)}, []syn.Ent{uni(1, 21, 30, 16)}, []api.Bf{bf(1, 10, 30, 5)}},
	{[]api.Bf{bf(1, 10, 20, 3, 5)}, []syn.Ent{uni(1, 15, 15, 90)}, []api.Bf{bf(1, 10, 14, 3, 5), bf(1, 15, 15, 90), bf(1, 16, 20, 3, 11)}},
	{[]api.Bf{bf(1, 10, 20, 5)}, []syn.Ent{uni(1, 0, 255, 90)}, []api.Bf{bf(1, 0, 255, 90)}},
	{[]api.Bf{bf(1, 10, 20, 3, 5)}, []syn.Ent{uni(1, 10, 20, 3, 5)}, []api.Bf{bf(1, 10, 20, 3, 5)}},
	{[]api.Bf{bf(1, 10, 20, 5)}, []syn.Ent{uni(2, 10, 20, 5)}, []api.Bf{bf(1, 10, 20, 5), bf(2, 10, 20, 5)}},
	// some that may not be, by the codes and by the units
	{nil, []syn.Ent{uni(1, 9, 5, 7), uni(1, 0, 256, 7), uni(1, -1, 5, 7), uni(0, 0, 0, 7), uni(5, 0, 0, 7), uni(math.MinInt, math.MinInt, math.MaxInt, math.MaxInt)}, nil},
	{nil, []syn.Ent{uni(1, 5, 9), uni(1, 5, 9, -1), uni(1, 5, 9, 65536), uni(1, 5, 9, 65532), uni(1, 5, 9, 65536, 0), uni(1, 5, 9, many(65, 7)...), {}}, nil},
	{[]api.Bf{bf(1, 5, 9, 3)}, []syn.Ent{uni(1, 5, 9, 65532), uni(1, 5, 9), uni(1, 20, 21, 65534)}, []api.Bf{bf(1, 5, 9, 3), bf(1, 20, 21, 65534)}},
	{nil, []syn.Ent{{Lo: code(1, 5), Hi: code(2, 9), U: []int{3}}, {Lo: code(1, 5), Hi: code(2, 300), U: []int{9}}, {Lo: code(0, 5), Hi: code(1, 9), U: []int{9}}}, []api.Bf{bf(1, 5, 9, 3)}},
	// with L: of none, where U alone tells, or nothing
	{nil, []syn.Ent{each(1, 5, 9)}, nil},
	{nil, []syn.Ent{{Lo: code(1, 5), Hi: code(1, 9), L: [][]int{}}}, nil},
	{[]api.Bf{bf(1, 5, 9, 3)}, []syn.Ent{each(1, 5, 9)}, []api.Bf{bf(1, 5, 9, 3)}},
	{nil, []syn.Ent{{Lo: code(1, 5), Hi: code(1, 9), U: []int{7}, L: [][]int{}}}, []api.Bf{bf(1, 5, 9, 7)}},
	// of one, and of several
	{nil, []syn.Ent{each(1, 5, 5, []int{0x41})}, []api.Bf{bf(1, 5, 5, 0x41)}},
	{nil, []syn.Ent{each(1, 5, 5, []int{0x66, 0x69})}, []api.Bf{bf(1, 5, 5, 0x66, 0x69)}},
	{nil, []syn.Ent{each(1, 5, 7, []int{0x41}, []int{0x61}, []int{0x66, 0x69})}, []api.Bf{bf(1, 5, 5, 0x41), bf(1, 6, 6, 0x61), bf(1, 7, 7, 0x66, 0x69)}},
	{nil, []syn.Ent{each(1, 5, 8, []int{0x41}, []int{0x42}, []int{0x43}, []int{0x43})}, []api.Bf{bf(1, 5, 7, 0x41), bf(1, 8, 8, 0x43)}},
	{nil, []syn.Ent{each(1, 5, 6, many(64, 7), many(64, 9)), each(3, 0x10FF, 0x1100, []int{65535}, []int{0})}, []api.Bf{bf(1, 5, 5, many(64, 7)...), bf(1, 6, 6, many(64, 9)...), bf(3, 0x10FF, 0x10FF, 65535), bf(3, 0x1100, 0x1100, 0)}},
	// with L, U does not count
	{nil, []syn.Ent{{Lo: code(1, 5), Hi: code(1, 9), U: []int{7}, L: [][]int{{0x41}, {0x61}}}}, []api.Bf{bf(1, 5, 5, 0x41), bf(1, 6, 6, 0x61)}},
	{nil, []syn.Ent{{Lo: code(1, 5), Hi: code(1, 9), U: []int{7}, L: [][]int{nil}}}, nil},
	// fewer than codes, and more
	{nil, []syn.Ent{each(1, 5, 9, []int{0x41}, []int{0x61})}, []api.Bf{bf(1, 5, 5, 0x41), bf(1, 6, 6, 0x61)}},
	{nil, []syn.Ent{each(1, 5, 255, []int{0x41})}, []api.Bf{bf(1, 5, 5, 0x41)}},
	{nil, []syn.Ent{each(1, 5, 5, []int{0x41}, []int{0x61}, []int{0x62})}, []api.Bf{bf(1, 5, 5, 0x41), bf(1, 6, 7, 0x61)}},
	// Hi does not count
	{nil, []syn.Ent{each(1, 5, 4, []int{0x41}, []int{0x61}), each(1, 8, math.MinInt, []int{0x41}), each(1, 10, math.MaxInt, []int{0x51})}, []api.Bf{bf(1, 5, 5, 0x41), bf(1, 6, 6, 0x61), bf(1, 8, 8, 0x41), bf(1, 10, 10, 0x51)}},
	{nil, []syn.Ent{{Lo: code(2, 300), Hi: code(-7, 301), L: [][]int{{0x41}, {0x61}}}}, []api.Bf{bf(2, 300, 300, 0x41), bf(2, 301, 301, 0x61)}},
	// up to the greatest number of so many bytes, and beyond it
	{nil, []syn.Ent{each(1, 254, 255, []int{0x41}, []int{0x61})}, []api.Bf{bf(1, 254, 254, 0x41), bf(1, 255, 255, 0x61)}},
	{nil, []syn.Ent{each(1, 254, 255, []int{0x41}, []int{0x61}, []int{0x71})}, []api.Bf{bf(1, 254, 254, 0x41), bf(1, 255, 255, 0x61)}},
	{[]api.Bf{bf(1, 0, 0, 3), bf(2, 256, 256, 4)}, []syn.Ent{each(1, 255, 255, []int{0x41}, []int{0x61})}, []api.Bf{bf(1, 0, 0, 3), bf(1, 255, 255, 0x41), bf(2, 256, 256, 4)}},
	{nil, []syn.Ent{each(2, 0xFFFF, 0xFFFF, []int{0x41}, []int{0x61})}, []api.Bf{bf(2, 0xFFFF, 0xFFFF, 0x41)}},
	{nil, []syn.Ent{each(3, 0xFFFFFE, 0xFFFFFF, []int{0x41}, []int{0x61}, []int{0x71})}, []api.Bf{bf(3, 0xFFFFFE, 0xFFFFFE, 0x41), bf(3, 0xFFFFFF, 0xFFFFFF, 0x61)}},
	{nil, []syn.Ent{each(4, 0xFFFFFFFF, 0xFFFFFFFF, []int{0x41}, []int{0x61})}, []api.Bf{bf(4, 0xFFFFFFFF, 0xFFFFFFFF, 0x41)}},
	{nil, []syn.Ent{each(1, 256, 257, []int{0x41}, []int{0x61}), each(4, 0x100000000, 0x100000001, []int{0x41}, []int{0x61})}, nil},
	// at numbers as great and as small as may be
	{nil, []syn.Ent{each(4, math.MaxInt, math.MaxInt, []int{0x41}, []int{0x61}, []int{0x71}), each(4, math.MaxInt-1, 0, []int{0x41}, []int{0x61}, []int{0x71}), each(4, math.MinInt, math.MinInt, []int{0x41}, []int{0x61})}, nil},
	{nil, []syn.Ent{each(math.MaxInt, 5, 5, []int{0x41}), each(math.MinInt, 5, 5, []int{0x41}), each(0, 5, 5, []int{0x41}), each(5, 5, 5, []int{0x41})}, nil},
	{nil, []syn.Ent{each(1, -2, 1, []int{0x41}, []int{0x51}, []int{0x61}, []int{0x71})}, []api.Bf{bf(1, 0, 0, 0x61), bf(1, 1, 1, 0x71)}},
	// units that may not be, among some that may
	{nil, []syn.Ent{each(1, 5, 11, []int{0x41}, nil, []int{}, []int{65536}, []int{-1}, many(65, 7), []int{0x61})}, []api.Bf{bf(1, 5, 5, 0x41), bf(1, 11, 11, 0x61)}},
	{[]api.Bf{bf(1, 5, 7, 3)}, []syn.Ent{each(1, 5, 7, []int{0x41}, nil, []int{0x61})}, []api.Bf{bf(1, 5, 5, 0x41), bf(1, 6, 6, 4), bf(1, 7, 7, 0x61)}},
	// with L and with U, behind one another
	{nil, []syn.Ent{uni(1, 0, 9, 0x41), each(1, 4, 5, []int{1, 2}, []int{0x46})}, []api.Bf{bf(1, 0, 3, 0x41), bf(1, 4, 4, 1, 2), bf(1, 5, 9, 0x46)}},
	{nil, []syn.Ent{each(1, 4, 5, []int{1, 2}, []int{0x46}), uni(1, 0, 9, 0x41)}, []api.Bf{bf(1, 0, 9, 0x41)}},
	{nil, []syn.Ent{each(1, 4, 5, []int{1, 2}, []int{3}), each(1, 5, 6, []int{4}, []int{5, 6})}, []api.Bf{bf(1, 4, 4, 1, 2), bf(1, 5, 5, 4), bf(1, 6, 6, 5, 6)}},
	// behind some that are no table
	{[]api.Bf{bf(2, 5, 9, 3), bf(1, 7, 7, 40), bf(1, 7, 7, 41), bf(1, 9, 8, 1), bf(1, 9, 9), {N: 7}}, nil, []api.Bf{bf(1, 7, 7, 41), bf(2, 5, 9, 3)}},
	{[]api.Bf{bf(2, 5, 9, 3), bf(1, 7, 7, 41)}, []syn.Ent{each(1, 8, 9, []int{42}, []int{43})}, []api.Bf{bf(1, 7, 9, 41), bf(2, 5, 9, 3)}},
}

// P9.2: codes that go to units, of ranges and chars alike.
func TestDoBfs(t *testing.T) {
	for _, x := range bfCases {
		for _, tab := range tables() {
			tab.Bfs = x.was
			want := tab
			want.Bfs = x.want
			for _, kind := range bfKinds {
				checkDo(t, tab, section(kind, x.l...), want)
			}
		}
	}
}

// P9.2: a section without entries puts its own list together, and leaves the others.
func TestDoNoEntries(t *testing.T) {
	for _, tab := range tables() {
		for kind := syn.Space; kind <= syn.BfChar; kind++ {
			want := tab
			switch kind {
			case syn.Space:
				want.Spaces = rect.Canon(tab.Spaces)
			case syn.CidRange, syn.CidChar:
				want.Cids = span.Build(tab.Cids, true)
			case syn.NotRange, syn.NotChar:
				want.Nots = span.Build(tab.Nots, false)
			default:
				want.Bfs = dest.Build(tab.Bfs)
			}
			checkDo(t, tab, section(kind), want)
			checkDo(t, tab, syn.Item{Kind: kind, Ents: []syn.Ent{}}, want)
			checkDo(t, tab, section(kind, syn.Ent{}), want)
		}
	}
}

// P9.2: numbers as great and as small as may be, in all places at once.
func TestDoOdd(t *testing.T) {
	odd := []int{math.MinInt, -1 << 32, -1, 0, 1, 4, 255, 65535, 1 << 32, math.MaxInt}
	for _, n := range odd {
		for _, lo := range odd {
			for _, hi := range odd {
				for kind := syn.Space; kind <= syn.BfChar; kind++ {
					e := syn.Ent{Lo: code(n, lo), Hi: code(n, hi), To: lo, U: []int{hi}}
					if hi < lo {
						e.L = [][]int{{lo}, {hi}, {7}}
					}
					x := section(kind, e)
					want := plainDo(Table{}, x)
					if got := Do(Table{}, x); !equal(got, want) || !Sane(got) {
						t.Fatalf("Do(%v) = %v, want %v", x, got, want)
					}
				}
			}
		}
	}
}

// P9.2 and P9.5: items of any kind, at tables of any kind: all codes but those of the item go where they went.
func TestDoSome(t *testing.T) {
	rnd := rand.New(rand.NewSource(92))
	for range 1500 {
		tab, x := someTable(rnd), someItem(rnd)
		checkDo(t, tab, x, plainDo(tab, x))
	}
	for range 1500 {
		l := someItems(rnd)
		x := someItem(rnd)
		tab := All(l)
		whole := slices.Concat(l, []syn.Item{x})
		checkCodes(t, whole, Do(tab, x), edges(whole))
	}
}

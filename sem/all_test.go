package sem

import (
	"encoding/binary"
	"math"
	"math/rand"
	"slices"
	"testing"

	"hornbook/api"
	"hornbook/span"
	"hornbook/syn"
	"hornbook/tok"
)

// allCases are items, and what All and Lists tell of them.
var allCases = []struct {
	l          []syn.Item
	all, lists Table
}{
	{nil, Table{}, Table{}}, {[]syn.Item{}, Table{}, Table{}},
	// one of each kind, and of none
	{[]syn.Item{def("CMapName", nameTok("A"))}, Table{Name: "A"}, Table{Name: "A"}},
	{[]syn.Item{def("WMode", intTok(1))}, Table{Wmode: 1}, Table{Wmode: 1}},
	{[]syn.Item{def("Registry", nameTok("A"))}, Table{}, Table{}},
	{[]syn.Item{{Kind: syn.Use, Name: "H"}}, Table{}, Table{}},
	{[]syn.Item{section(9, rng(1, 0, 1)), section(-1, rng(1, 0, 1)), section(math.MaxInt, uni(1, 0, 1, 5))}, Table{}, Table{}},
	{[]syn.Item{section(syn.Space, rng(2, 5, 9), rng(1, 0, 9))}, Table{Spaces: []api.Rect{{N: 1, Lo: 0, Hi: 9}, {N: 2, Lo: 5, Hi: 9}}}, Table{Spaces: []api.Rect{{N: 2, Lo: 5, Hi: 9}, {N: 1, Lo: 0, Hi: 9}}}},
	{[]syn.Item{section(syn.CidRange, to(1, 5, 9, 3), to(1, 4, 4, 2))}, Table{Cids: []api.Span{s1(4, 9, 2)}}, Table{Cids: []api.Span{s1(5, 9, 3), s1(4, 4, 2)}}},
	{[]syn.Item{section(syn.CidChar, to(1, 5, 5, 3), to(1, 4, 4, 3))}, Table{Cids: []api.Span{s1(4, 4, 3), s1(5, 5, 3)}}, Table{Cids: []api.Span{s1(5, 5, 3), s1(4, 4, 3)}}},
	{[]syn.Item{section(syn.NotRange, to(1, 5, 9, 3), to(1, 4, 4, 2))}, Table{Nots: []api.Span{s1(4, 4, 2), s1(5, 9, 3)}}, Table{Nots: []api.Span{s1(5, 9, 3), s1(4, 4, 2)}}},
	{[]syn.Item{section(syn.NotChar, to(1, 5, 5, 3), to(1, 4, 4, 3))}, Table{Nots: []api.Span{s1(4, 5, 3)}}, Table{Nots: []api.Span{s1(5, 5, 3), s1(4, 4, 3)}}},
	{[]syn.Item{section(syn.BfRange, uni(1, 5, 9, 3), each(1, 3, 4, []int{1}, []int{2}))}, Table{Bfs: []api.Bf{bf(1, 3, 9, 1)}}, Table{Bfs: []api.Bf{bf(1, 5, 9, 3), bf(1, 3, 3, 1), bf(1, 4, 4, 2)}}},
	{[]syn.Item{section(syn.BfChar, uni(1, 5, 5, 3, 4), uni(1, 4, 4, 3, 3))}, Table{Bfs: []api.Bf{bf(1, 4, 5, 3, 3)}}, Table{Bfs: []api.Bf{bf(1, 5, 5, 3, 4), bf(1, 4, 4, 3, 3)}}},
	// sections with no entries
	{[]syn.Item{section(2), section(3), section(4), section(5), section(6), section(7), section(8)}, Table{}, Table{}},
	// definitions told twice, and ones that do nothing behind them
	{[]syn.Item{def("CMapName", nameTok("A")), def("WMode", intTok(1)), def("CMapName", nameTok("B")), def("WMode", intTok(0))}, Table{Name: "B"}, Table{Name: "B"}},
	{[]syn.Item{def("CMapName", nameTok("A")), def("WMode", intTok(0)), def("CMapName", nameTok("")), def("WMode", intTok(1))}, Table{Wmode: 1}, Table{Wmode: 1}},
	{[]syn.Item{def("CMapName", nameTok("A")), def("WMode", intTok(1)), def("CMapName", api.Tok{Kind: tok.Str, S: "B"}), def("WMode", intTok(2)), def("WMode", nameTok("0")), def("CMapName", intTok(0)), {Kind: syn.Use, Name: "CMapName", Val: nameTok("C")}}, Table{Name: "A", Wmode: 1}, Table{Name: "A", Wmode: 1}},
	// what is listed twice, in one another, or may not be is listed all the same
	{[]syn.Item{section(syn.Space, rng(1, 0, 9), rng(1, 0, 9)), section(syn.Space, rng(1, 3, 4), rng(1, 9, 8), rng(7, 0, 0), syn.Ent{})}, Table{Spaces: []api.Rect{{N: 1, Lo: 0, Hi: 9}}}, Table{Spaces: []api.Rect{{N: 1, Lo: 0, Hi: 9}, {N: 1, Lo: 0, Hi: 9}, {N: 1, Lo: 3, Hi: 4}, {N: 1, Lo: 9, Hi: 8}, {N: 7}, {}}}},
	{[]syn.Item{section(syn.CidRange, to(1, 0, 9, 5), to(1, 0, 9, 5)), section(syn.CidChar, to(1, 9, 8, 5), to(1, 0, 0, -1), syn.Ent{Lo: code(1, 3), Hi: code(9, 4)})}, Table{Cids: []api.Span{s1(0, 2, 5), s1(3, 4, 0), s1(5, 9, 10)}}, Table{Cids: []api.Span{s1(0, 9, 5), s1(0, 9, 5), s1(9, 8, 5), s1(0, 0, -1), s1(3, 4, 0)}}},
	{[]syn.Item{section(syn.NotRange, to(1, 0, 9, 5), to(1, 0, 9, 5)), section(syn.NotChar, to(1, 9, 8, 5), to(1, 0, 0, -1), syn.Ent{Lo: code(1, 3), Hi: code(9, 4)})}, Table{Nots: []api.Span{s1(0, 2, 5), s1(3, 4, 0), s1(5, 9, 5)}}, Table{Nots: []api.Span{s1(0, 9, 5), s1(0, 9, 5), s1(9, 8, 5), s1(0, 0, -1), s1(3, 4, 0)}}},
	{[]syn.Item{section(syn.BfRange, uni(1, 0, 9, 5), uni(1, 0, 9, 5), uni(1, 0, 9)), section(syn.BfChar, each(1, 255, 255, []int{7}, nil, []int{65536}), uni(1, 9, 8, -1))}, Table{Bfs: []api.Bf{bf(1, 0, 9, 5), bf(1, 255, 255, 7)}}, Table{Bfs: []api.Bf{bf(1, 0, 9, 5), bf(1, 0, 9, 5), bf(1, 0, 9), bf(1, 255, 255, 7), bf(1, 256, 256), bf(1, 257, 257, 65536), bf(1, 9, 8, -1)}}},
	// the chapter's example
	{[]syn.Item{section(syn.CidChar, to(1, 0x41, 0x41, 7)), section(syn.CidRange, to(1, 0x40, 0x42, 1))}, Table{Cids: []api.Span{s1(0x40, 0x42, 1)}}, Table{Cids: []api.Span{s1(0x41, 0x41, 7), s1(0x40, 0x42, 1)}}},
	// sections of one kind, with others between them
	{
		[]syn.Item{
			section(syn.CidRange, to(1, 0, 9, 5)), section(syn.NotRange, to(1, 0, 9, 5)), section(syn.BfRange, uni(1, 0, 9, 5)), section(syn.Space, rng(1, 3, 4)),
			def("CMapName", nameTok("A")), {Kind: syn.Use, Name: "H"},
			section(syn.CidChar, to(1, 4, 4, 70)), section(syn.NotChar, to(1, 4, 4, 70)), section(syn.BfChar, uni(1, 4, 4, 70)), section(syn.Space, rng(1, 0, 255)),
			section(syn.BfRange, each(1, 5, 5, []int{6, 7})), section(syn.CidRange, to(1, 4, 4, 9)), section(syn.NotRange, to(1, 4, 4, 5)),
		},
		Table{Name: "A", Spaces: []api.Rect{{N: 1, Lo: 0, Hi: 255}}, Cids: []api.Span{s1(0, 9, 5)}, Nots: []api.Span{s1(0, 9, 5)}, Bfs: []api.Bf{bf(1, 0, 3, 5), bf(1, 4, 4, 70), bf(1, 5, 5, 6, 7), bf(1, 6, 9, 11)}},
		Table{
			Name: "A", Spaces: []api.Rect{{N: 1, Lo: 3, Hi: 4}, {N: 1, Lo: 0, Hi: 255}},
			Cids: []api.Span{s1(0, 9, 5), s1(4, 4, 70), s1(4, 4, 9)}, Nots: []api.Span{s1(0, 9, 5), s1(4, 4, 70), s1(4, 4, 5)},
			Bfs: []api.Bf{bf(1, 0, 9, 5), bf(1, 4, 4, 70), bf(1, 5, 5, 6, 7)},
		},
	},
}

// P9.3
func TestAll(t *testing.T) {
	for _, x := range allCases {
		checkAll(t, x.l, x.all, x.lists)
		for cut := range len(x.l) + 1 {
			checkWhole(t, x.l, cut)
		}
	}
}

// P9.3: the entries of all sections of a kind are those of one.
func TestAllTwice(t *testing.T) {
	for _, x := range allCases {
		two := slices.Concat(x.l, x.l)
		lists := plainMergeLists(x.lists, x.lists)
		checkAll(t, two, x.all, lists)
	}
}

// plainMergeLists is t, with the lists of u behind its own, nothing put together.
func plainMergeLists(t, u Table) Table {
	t.Spaces, t.Bfs = slices.Concat(t.Spaces, u.Spaces), slices.Concat(t.Bfs, u.Bfs)
	t.Cids, t.Nots = slices.Concat(t.Cids, u.Cids), slices.Concat(t.Nots, u.Nots)
	return t
}

// P9.3: numbers as great as may be are listed as they are.
func TestListsOdd(t *testing.T) {
	for _, n := range []int{math.MinInt, -1, 0, 1, 5, math.MaxInt} {
		for kind := syn.Space; kind <= syn.BfChar; kind++ {
			l := []syn.Item{section(kind, syn.Ent{Lo: code(n, n), Hi: code(3, -n), To: n, U: []int{n, n}})}
			checkAll(t, l, plainAll(l), plainLists(l))
		}
		got := Lists([]syn.Item{section(syn.BfRange, each(1, n, 3, []int{n}))}).Bfs
		if len(got) != 1 || !equalBf(got[0], bf(1, n, n, n)) {
			t.Error("Lists of one with L, of one:", got)
		}
		if got := Lists([]syn.Item{section(syn.BfRange, each(1, n, 3, []int{n}, nil, []int{7}))}).Bfs; len(got) != 3 || len(got[1].To) != 0 || got[2].To[0] != 7 {
			t.Error("Lists of one with L, of three:", got)
		}
	}
}

// mergeCases are two tables, and what Merge tells of them.
var mergeCases = []struct{ a, b, want Table }{
	{Table{}, Table{}, Table{}},
	// other names and modes: those of the first one, whatever they are
	{Table{Name: "A"}, Table{Name: "B", Wmode: 1}, Table{Name: "A"}}, {Table{}, Table{Name: "B", Wmode: 1}, Table{}}, {Table{Name: "A", Wmode: 1}, Table{}, Table{Name: "A", Wmode: 1}}, {Table{Wmode: -7}, Table{Wmode: 1}, Table{Wmode: -7}}, {Table{Wmode: 1}, Table{Wmode: math.MinInt}, Table{Wmode: 1}},
	// one with an empty one, with itself, and with one that is not Sane
	{full(), Table{}, full()},
	{full(), full(), full()},
	{Table{}, full(), Table{Spaces: full().Spaces, Cids: full().Cids, Nots: full().Nots, Bfs: full().Bfs}},
	{full(), Table{Wmode: 5, Spaces: []api.Rect{{}}, Cids: []api.Span{{}, s1(5, 4, 3)}, Nots: []api.Span{s1(0, 0, -1)}, Bfs: []api.Bf{{N: 1}}}, full()},
	{
		spoiled(), Table{},
		Table{
			Name: "\x00", Wmode: -7, Spaces: []api.Rect{{N: 1, Lo: 0, Hi: 9}, {N: 2, Lo: 0x8140, Hi: 0x9FFC}},
			Cids: []api.Span{s1(9, 9, 8), {N: 2, Lo: 5, Hi: 9, To: 3}}, Nots: []api.Span{{N: 2, Lo: 5, Hi: 10, To: 3}}, Bfs: []api.Bf{bf(2, 5, 6, 0x41), bf(2, 7, 7, 0x42), bf(2, 8, 9, 0x44)},
		},
	},
	// each list alone
	{Table{Spaces: []api.Rect{{N: 2, Lo: 0, Hi: 9}}}, Table{Spaces: []api.Rect{{N: 1, Lo: 0, Hi: 9}, {N: 2, Lo: 3, Hi: 4}}}, Table{Spaces: []api.Rect{{N: 1, Lo: 0, Hi: 9}, {N: 2, Lo: 0, Hi: 9}}}},
	{Table{Cids: []api.Span{s1(10, 20, 5)}}, Table{Cids: []api.Span{s1(9, 9, 4), s1(15, 15, 99)}}, Table{Cids: []api.Span{s1(9, 14, 4), s1(15, 15, 99), s1(16, 20, 11)}}},
	{Table{Cids: []api.Span{s1(9, 9, 4), s1(15, 15, 99)}}, Table{Cids: []api.Span{s1(10, 20, 5)}}, Table{Cids: []api.Span{s1(9, 20, 4)}}},
	{Table{Nots: []api.Span{s1(10, 20, 5)}}, Table{Nots: []api.Span{s1(9, 9, 4), s1(15, 15, 99)}}, Table{Nots: []api.Span{s1(9, 9, 4), s1(10, 14, 5), s1(15, 15, 99), s1(16, 20, 5)}}},
	{Table{Nots: []api.Span{s1(9, 9, 5), s1(15, 15, 99)}}, Table{Nots: []api.Span{s1(10, 20, 5)}}, Table{Nots: []api.Span{s1(9, 20, 5)}}},
	{Table{Bfs: []api.Bf{bf(1, 10, 20, 5)}}, Table{Bfs: []api.Bf{bf(1, 9, 9, 4), bf(1, 15, 15, 3, 99)}}, Table{Bfs: []api.Bf{bf(1, 9, 14, 4), bf(1, 15, 15, 3, 99), bf(1, 16, 20, 11)}}},
	{Table{Bfs: []api.Bf{bf(1, 9, 9, 4), bf(1, 15, 15, 3, 99)}}, Table{Bfs: []api.Bf{bf(1, 10, 20, 5)}}, Table{Bfs: []api.Bf{bf(1, 9, 20, 4)}}},
	// the same codes in the lists of both, each of which keeps to its own
	{
		Table{Name: "A", Spaces: []api.Rect{{N: 1, Lo: 0, Hi: 9}}, Cids: []api.Span{s1(0, 9, 5)}},
		Table{Name: "B", Wmode: 1, Nots: []api.Span{s1(0, 9, 7)}, Bfs: []api.Bf{bf(1, 0, 9, 8)}},
		Table{Name: "A", Spaces: []api.Rect{{N: 1, Lo: 0, Hi: 9}}, Cids: []api.Span{s1(0, 9, 5)}, Nots: []api.Span{s1(0, 9, 7)}, Bfs: []api.Bf{bf(1, 0, 9, 8)}},
	},
}

// P9.4
func TestMerge(t *testing.T) {
	for _, x := range mergeCases {
		checkMerge(t, x.a, x.b, x.want)
	}
	for _, a := range tables() {
		for _, b := range tables() {
			checkMerge(t, a, b, plainMerge(a, b))
		}
	}
}

// P9.4: tables of any kind, in either order.
func TestMergeSome(t *testing.T) {
	rnd := rand.New(rand.NewSource(94))
	for range 3000 {
		a, b := someTable(rnd), someTable(rnd)
		checkMerge(t, a, b, plainMerge(a, b))
		checkMerge(t, b, a, plainMerge(b, a))
		checkMerge(t, a, a, plainMerge(a, Table{}))
	}
}

// P9.5: what is done in two parts is done at once, and each code goes where the last one that is listed says.
func TestWhole(t *testing.T) {
	rnd := rand.New(rand.NewSource(95))
	for range 4000 {
		l := someItems(rnd)
		checkWhole(t, l, rnd.Intn(len(l)+1))
	}
}

// P9.5: each code of one byte, and of two, by tables that lie over each other.
func TestEachCode(t *testing.T) {
	rnd := rand.New(rand.NewSource(96))
	for range 6 {
		var l []syn.Item
		for kind := syn.Space; kind <= syn.BfChar; kind++ {
			for range 2 {
				lo, more := rnd.Intn(60000), rnd.Intn(5000)
				wide := syn.Ent{Lo: code(2, lo), Hi: code(2, lo+more), To: lo, U: []int{lo}}
				l = append(l, section(kind, someEnt(rnd), wide, someEnt(rnd)))
			}
		}
		rnd.Shuffle(len(l), func(i, j int) { l[i], l[j] = l[j], l[i] })
		tab := All(l)
		var codes []api.Code
		for v := range 65536 {
			codes = append(codes, code(2, v))
		}
		for v := -1; v <= 256; v++ {
			codes = append(codes, code(1, v), code(0, v), code(3, v), code(4, v))
		}
		checkCodes(t, l, tab, codes)
	}
}

// itemsOf are the items of a source, or none.
func itemsOf(src string) []syn.Item {
	l, _, e := tok.All(src)
	if e != api.OK {
		return nil
	}
	items, _, _ := syn.Parse(l, len(src))
	return items
}

// sources are some, and what comes of them.
var sources = []struct {
	src  string
	want Table
}{
	{"", Table{}}, {"/A usecmap", Table{}}, {"5 def /CMapName def /CMapName (A) def /A /B def", Table{}},
	{"/CMapName /A#20b def /WMode 1 def", Table{Name: "A b", Wmode: 1}},
	{"1 begincidchar <41> 7 endcidchar 1 begincidrange <40> <42> 1 endcidrange", Table{Cids: []api.Span{s1(0x40, 0x42, 1)}}},
	{"2 begincodespacerange <8140> <9FFC> <00> <80> endcodespacerange", Table{Spaces: []api.Rect{{N: 1, Lo: 0, Hi: 0x80}, {N: 2, Lo: 0x8140, Hi: 0x9FFC}}}},
	{"1 beginnotdefrange <00> <1F> 1 endnotdefrange 1 beginnotdefchar <05> 9 endnotdefchar", Table{Nots: []api.Span{s1(0, 4, 1), s1(5, 5, 9), s1(6, 0x1F, 1)}}},
	{"2 beginbfrange <05> <06> [<0041> <00660069>] <07> <08> <0391> endbfrange 1 beginbfchar <08> <03920301> endbfchar", Table{Bfs: []api.Bf{bf(1, 5, 5, 0x41), bf(1, 6, 6, 0x66, 0x69), bf(1, 7, 7, 0x391), bf(1, 8, 8, 0x392, 0x301)}}},
	{"/CMapName /A def 1 begincidrange <00> <FF> 0 endcidrange /CMapName /B def 0 begincidchar endcidchar", Table{Name: "B", Cids: []api.Span{s1(0, 255, 0)}}},
}

// P9.3: sources, by way of the layers below.
func TestSources(t *testing.T) {
	for _, x := range sources {
		l := itemsOf(x.src)
		checkAll(t, l, x.want, plainLists(l))
		for cut := range len(l) + 1 {
			checkWhole(t, l, cut)
		}
	}
	all := All(itemsOf(sources[4].src))
	if cid, ok := span.Find(all.Cids, code(1, 0x41), true); cid != 2 || !ok {
		t.Error("the chapter's example:", cid, ok)
	}
}

// P1: many items, of one entry each and of many, in one another and over one another.
func TestLong(t *testing.T) {
	const count = 1 << 13
	var l []syn.Item
	for v := range count {
		l = append(l,
			section(syn.CidChar, to(2, v*2, v*2, v)), section(syn.CidRange, to(3, v, 2*count-2-v, 7)),
			section(syn.NotRange, to(2, v, v+count/2, v)), section(syn.BfChar, uni(2, v*2, v*2, v, 65535-v)), section(syn.Space, rng(3, v*2, v*2)),
		)
	}
	got := All(l)
	if !Sane(got) || len(got.Cids) != 3*count-1 || len(got.Nots) != count || len(got.Bfs) != count || len(got.Spaces) != count {
		t.Error("many items:", len(got.Cids), len(got.Nots), len(got.Bfs), len(got.Spaces))
	}
	lists := Lists(l)
	if len(lists.Cids) != 2*count || len(lists.Nots) != count || !equalLists(got, Merge(lists, Table{})) || !equalLists(got, Merge(got, lists)) {
		t.Error("what many items list:", len(lists.Cids), len(lists.Nots))
	}
	var e syn.Ent
	e.Lo, e.Hi = code(4, 5), code(4, 5)
	for v := range 1 << 17 {
		e.L = append(e.L, []int{v % 65536})
	}
	if got := Do(got, section(syn.BfRange, e)).Bfs; len(got) != count+2 || got[count].Hi != 5+65535 || got[count+1].Hi != 5+1<<17-1 {
		t.Error("many units:", len(got))
	}
}

// P1: nothing at all, in all calls.
func TestNothing(t *testing.T) {
	if !Sane(Table{}) || !equal(Do(Table{}, syn.Item{}), Table{}) || !equal(All(nil), Table{}) || !equal(Lists(nil), Table{}) || !equal(Merge(Table{}, Table{}), Table{}) {
		t.Error("nothing at all")
	}
	l := []syn.Item{{}, {Kind: -1}, {Kind: syn.Space, Ents: []syn.Ent{{}}}, {Kind: syn.BfRange, Ents: []syn.Ent{{L: [][]int{nil}}}}}
	checkAll(t, l, Table{}, Table{Spaces: []api.Rect{{}}, Bfs: []api.Bf{{}}})
}

// itemsFrom makes items of bytes: of each its kind, what a definition says, and how many entries: of each how many bytes its codes have, the two numbers, what they go to, and how many units, alone or each code's own.
func itemsFrom(b []byte) (l []syn.Item) {
	for len(b) >= 4 && len(l) < 30 {
		x := syn.Item{Kind: int(int8(b[0])) % 11, Val: api.Tok{Kind: int(b[1] % 6), N: int(int8(b[2])), S: string(b[1:3])}}
		x.Name = []string{"CMapName", "WMode", "", string(b[1:2])}[b[1]/6%4]
		many := int(b[3] % 8)
		b = b[4:]
		for ; many > 0 && len(b) >= 14; many-- {
			e := syn.Ent{Lo: code(int(int8(b[0])), int(binary.BigEndian.Uint32(b[1:]))), Hi: code(int(int8(b[5])), int(binary.BigEndian.Uint32(b[6:])))}
			e.To = int(int8(b[10]))<<16 | int(b[11])<<8 | int(b[12])
			units := int(b[13])
			b = b[14:]
			for ; units%16 > 0 && len(b) >= 2; units-- {
				u := int(b[0])<<8 | int(b[1])
				if b = b[2:]; units >= 128 {
					e.L = append(e.L, []int{u})
				} else {
					e.U = append(e.U, u)
				}
			}
			x.Ents = append(x.Ents, e)
		}
		l = append(l, x)
	}
	return l
}

// P9.1 to P9.5 and P1 at bytes of any kind, as a source and as items.
func FuzzBytes(f *testing.F) {
	for _, x := range sources {
		f.Add([]byte(x.src), 1)
	}
	f.Add([]byte{4, 0, 0, 1, 1, 0, 0, 0, 65, 1, 0, 0, 0, 65, 0, 0, 7, 0, 3, 0, 0, 1, 1, 0, 0, 0, 64, 1, 0, 0, 0, 66, 0, 0, 1, 0}, 1)
	f.Add([]byte{0, 2, 65, 0, 0, 7, 1, 0, 7, 0, 0, 1, 1, 0, 0, 0, 254, 1, 0, 0, 0, 255, 0, 0, 0, 131, 0, 65, 0, 97, 0, 98}, 2)
	f.Add([]byte{2, 0, 0, 2, 2, 0, 0, 0x81, 0x40, 2, 0, 0, 0x9F, 0xFC, 0, 0, 0, 0, 2, 0, 0, 0x81, 0x50, 2, 0, 0, 0x82, 0x60, 0, 0, 0, 0}, 0)
	f.Fuzz(func(t *testing.T, b []byte, cut int) {
		for _, l := range [][]syn.Item{itemsOf(string(b)), itemsFrom(b)} {
			at := min(max(cut, 0), len(l))
			checkWhole(t, l, at)
			lists := Lists(l)
			checkSane(t, lists, plainSane(lists))
			checkMerge(t, lists, full(), plainMerge(lists, full()))
			for _, x := range l[:min(at, 3)] {
				checkDo(t, lists, x, plainDo(lists, x))
			}
		}
	})
}

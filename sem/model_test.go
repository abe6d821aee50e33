package sem

import (
	"math"
	"math/rand"
	"reflect"
	"slices"
	"testing"

	"hornbook/api"
	"hornbook/dest"
	"hornbook/rect"
	"hornbook/span"
	"hornbook/syn"
	"hornbook/tok"
)

// greatest is, for each number of bytes, the greatest number of so many.
var greatest = []int{0, 0xFF, 0xFFFF, 0xFFFFFF, 0xFFFFFFFF}

// The kinds that tell of each list.
var (
	cidKinds = []int{syn.CidRange, syn.CidChar}
	notKinds = []int{syn.NotRange, syn.NotChar}
	bfKinds  = []int{syn.BfRange, syn.BfChar}
)

// noKinds are no kinds at all.
var noKinds = []int{math.MinInt, -1 << 32, -256, -2, -1, 9, 10, 100, 258, 1<<32 + 3, math.MaxInt}

func code(n, v int) api.Code { return api.Code{N: n, V: v} }

// many is u, so many times.
func many(n, u int) []int { return slices.Repeat([]int{u}, n) }

// to is an entry that goes to a number.
func to(n, lo, hi, num int) syn.Ent { return syn.Ent{Lo: code(n, lo), Hi: code(n, hi), To: num} }

// rng is an entry that goes to nothing.
func rng(n, lo, hi int) syn.Ent { return to(n, lo, hi, 0) }

// uni is an entry that goes to units.
func uni(n, lo, hi int, u ...int) syn.Ent { return syn.Ent{Lo: code(n, lo), Hi: code(n, hi), U: u} }

// each is an entry each code of which goes to units of its own.
func each(n, lo, hi int, l ...[]int) syn.Ent { return syn.Ent{Lo: code(n, lo), Hi: code(n, hi), L: l} }

func bf(n, lo, hi int, u ...int) api.Bf { return api.Bf{N: n, Lo: lo, Hi: hi, To: u} }

func section(kind int, l ...syn.Ent) syn.Item { return syn.Item{Kind: kind, Ents: l} }

func def(name string, val api.Tok) syn.Item {
	return syn.Item{Kind: syn.Def, Name: name, Val: val}
}

func nameTok(s string) api.Tok { return api.Tok{Kind: tok.Name, S: s} }
func intTok(n int) api.Tok     { return api.Tok{Kind: tok.Int, N: n} }

// full is a table that is Sane, with some in each list.
func full() Table {
	return Table{
		Name: "Full", Wmode: 1,
		Spaces: []api.Rect{{N: 1, Lo: 0x00, Hi: 0x80}, {N: 3, Lo: 0x814000, Hi: 0x9FFC10}},
		Cids:   []api.Span{{N: 3, Lo: 5, Hi: 9, To: 3}, {N: 3, Lo: 10, Hi: 10, To: 9}},
		Nots:   []api.Span{{N: 3, Lo: 5, Hi: 9, To: 3}, {N: 3, Lo: 10, Hi: 10, To: 8}},
		Bfs:    []api.Bf{bf(3, 5, 9, 0x41), bf(3, 10, 10, 0x41, 0x42)},
	}
}

// spoiled is a table each part of which is not Sane.
func spoiled() Table {
	return Table{
		Name: "\x00", Wmode: -7,
		Spaces: []api.Rect{{N: 2, Lo: 0x8140, Hi: 0x9FFC}, {N: 1, Lo: 0, Hi: 9}, {N: 1, Lo: 0, Hi: 9}, {N: 7}},
		Cids:   []api.Span{{N: 2, Lo: 5, Hi: 9, To: 3}, {N: 2, Lo: 7, Hi: 7, To: 70000}, {N: 1, Lo: 9, Hi: 9, To: 8}, {N: 1, Lo: 3, Hi: 1}},
		Nots:   []api.Span{{N: 2, Lo: 5, Hi: 9, To: 3}, {N: 2, Lo: 10, Hi: 10, To: 3}, {}},
		Bfs:    []api.Bf{bf(2, 5, 9, 0x41), bf(2, 7, 7, 0x42), bf(2, 8, 8), bf(1, 1, 0, 5), {}},
	}
}

// tables are those at which items are tried: empty, Sane, and not.
func tables() []Table {
	return []Table{{}, {Spaces: []api.Rect{}, Cids: []api.Span{}, Nots: []api.Span{}, Bfs: []api.Bf{}}, full(), spoiled()}
}

// others are items of all kinds, with entries that may be told of.
func others() []syn.Item {
	ents := []syn.Ent{
		{Lo: code(1, 0x20), Hi: code(1, 0x7E), To: 1, U: []int{0x20}},
		{Lo: code(2, 0x100), Hi: code(2, 0x101), To: 900, U: []int{0x391}, L: [][]int{{0x61}, {0x66, 0x66}}},
	}
	l := []syn.Item{def("CMapName", nameTok("Other")), def("WMode", intTok(1)), def("WMode", intTok(0)), {Kind: syn.Use, Name: "Other"}}
	for kind := syn.Space; kind <= syn.BfChar; kind++ {
		l = append(l, section(kind, ents...))
	}
	return l
}

// plainDo is the table behind an item, from the words of the document.
func plainDo(t Table, x syn.Item) Table {
	told := plainList(Table{}, x)
	switch x.Kind {
	case 0:
		t = plainList(t, x)
	case 2:
		t.Spaces = rect.Canon(slices.Concat(t.Spaces, told.Spaces))
	case 3, 4:
		t.Cids = span.Build(slices.Concat(t.Cids, told.Cids), true)
	case 5, 6:
		t.Nots = span.Build(slices.Concat(t.Nots, told.Nots), false)
	case 7, 8:
		t.Bfs = dest.Build(slices.Concat(t.Bfs, told.Bfs))
	}
	return t
}

// plainList is the table with what an item tells behind each list.
func plainList(t Table, x syn.Item) Table {
	if x.Kind == 0 {
		if x.Name == "CMapName" && x.Val.Kind == 2 {
			t.Name = x.Val.S
		}
		if x.Name == "WMode" && x.Val.Kind == 1 && (x.Val.N == 0 || x.Val.N == 1) {
			t.Wmode = x.Val.N
		}
		return t
	}
	for _, e := range x.Ents {
		n, lo, hi := e.Lo.N, e.Lo.V, e.Hi.V
		switch x.Kind {
		case 2:
			t.Spaces = slices.Concat(t.Spaces, []api.Rect{{N: n, Lo: lo, Hi: hi}})
		case 3, 4:
			t.Cids = slices.Concat(t.Cids, []api.Span{{N: n, Lo: lo, Hi: hi, To: e.To}})
		case 5, 6:
			t.Nots = slices.Concat(t.Nots, []api.Span{{N: n, Lo: lo, Hi: hi, To: e.To}})
		case 7, 8:
			t.Bfs = slices.Concat(t.Bfs, plainBfs(e))
		}
	}
	return t
}

func plainBfs(e syn.Ent) (out []api.Bf) {
	if len(e.L) == 0 {
		return []api.Bf{bf(e.Lo.N, e.Lo.V, e.Hi.V, e.U...)}
	}
	at := e.Lo.V
	for _, u := range e.L {
		out = append(out, bf(e.Lo.N, at, at, u...))
		at++
	}
	return out
}

func plainAll(l []syn.Item) (t Table) {
	for _, x := range l {
		t = plainDo(t, x)
	}
	return t
}

func plainLists(l []syn.Item) (t Table) {
	for _, x := range l {
		t = plainList(t, x)
	}
	return t
}

// plainMerge is t, with the lists of u behind its own.
func plainMerge(t, u Table) Table {
	return Table{
		Name: t.Name, Wmode: t.Wmode,
		Spaces: rect.Canon(slices.Concat(t.Spaces, u.Spaces)),
		Cids:   span.Build(slices.Concat(t.Cids, u.Cids), true),
		Nots:   span.Build(slices.Concat(t.Nots, u.Nots), false),
		Bfs:    dest.Build(slices.Concat(t.Bfs, u.Bfs)),
	}
}

// plainSane: may t be?
func plainSane(t Table) bool {
	return (t.Wmode == 0 || t.Wmode == 1) && slices.Equal(t.Spaces, rect.Canon(t.Spaces)) && slices.Equal(t.Cids, span.Build(t.Cids, true)) &&
		slices.Equal(t.Nots, span.Build(t.Nots, false)) && slices.EqualFunc(t.Bfs, dest.Build(t.Bfs), equalBf)
}

func plainCode(c api.Code) bool { return c.N >= 1 && c.N <= 4 && c.V >= 0 && c.V <= greatest[c.N] }

// covers: is c one of the codes from lo to hi, which may be, of n bytes?
func covers(n, lo, hi int, c api.Code) bool {
	return plainCode(c) && plainCode(code(n, lo)) && plainCode(code(n, hi)) && c.N == n && lo <= c.V && c.V <= hi
}

// plainIn: is c in a codespace that one of some items tells?
func plainIn(l []syn.Item, c api.Code) bool {
	for _, x := range l {
		for _, e := range x.Ents {
			if x.Kind == syn.Space && plainInOne(e, c) {
				return true
			}
		}
	}
	return false
}

func plainInOne(e syn.Ent, c api.Code) bool {
	if !covers(e.Lo.N, e.Lo.V, e.Hi.V, c) {
		return false
	}
	for i := range c.N {
		lo, hi, b := e.Lo.V>>(8*i)&255, e.Hi.V>>(8*i)&255, c.V>>(8*i)&255
		if b < lo || hi < b || hi < lo {
			return false
		}
	}
	return true
}

// plainNum is the number that c goes to by the last one of some items of those kinds.
func plainNum(l []syn.Item, c api.Code, kinds []int, step bool) (num int, ok bool) {
	for _, x := range l {
		for _, e := range x.Ents {
			if !slices.Contains(kinds, x.Kind) || !covers(e.Lo.N, e.Lo.V, e.Hi.V, c) || e.To < 0 || e.To > 65535 {
				continue
			}
			if !step {
				num, ok = e.To, true
			} else if e.To+(e.Hi.V-e.Lo.V) <= 65535 {
				num, ok = e.To+(c.V-e.Lo.V), true
			}
		}
	}
	return num, ok
}

// plainUnits are the units that c goes to by the last one of some items.
func plainUnits(l []syn.Item, c api.Code) (u []int, ok bool) {
	for _, x := range l {
		for _, e := range x.Ents {
			if !slices.Contains(bfKinds, x.Kind) {
				continue
			}
			if got, is := plainOwn(e, c); is {
				u, ok = got, true
			}
		}
	}
	return u, ok
}

// plainOwn are the units that c goes to by an entry.
func plainOwn(e syn.Ent, c api.Code) ([]int, bool) {
	lo, hi, u := e.Lo.V, e.Hi.V, e.U
	if at := c.V - e.Lo.V; len(e.L) > 0 {
		if c.V < e.Lo.V || at < 0 || at >= len(e.L) {
			return nil, false
		}
		lo, hi, u = c.V, c.V, e.L[at]
	}
	if !covers(e.Lo.N, lo, hi, c) || len(u) < 1 || len(u) > 64 || slices.Min(u) < 0 || slices.Max(u) > 65535 {
		return nil, false
	}
	end := len(u) - 1
	if u[end]+(hi-lo) > 65535 {
		return nil, false
	}
	return slices.Concat(u[:end], []int{u[end] + (c.V - lo)}), true
}

func equalBf(a, b api.Bf) bool {
	return a.N == b.N && a.Lo == b.Lo && a.Hi == b.Hi && slices.Equal(a.To, b.To)
}

func equalLists(a, b Table) bool {
	return slices.Equal(a.Spaces, b.Spaces) && slices.Equal(a.Cids, b.Cids) && slices.Equal(a.Nots, b.Nots) && slices.EqualFunc(a.Bfs, b.Bfs, equalBf)
}

func equal(a, b Table) bool { return a.Name == b.Name && a.Wmode == b.Wmode && equalLists(a, b) }

// mark is what stands behind each list that is handed in.
const mark = -77

// marked is l, in memory of its own, with a mark behind it.
func marked[T any](l []T, mark T) []T {
	if l == nil {
		return nil
	}
	return append(slices.Clone(l), mark)[:len(l)]
}

// withMark is l with the mark that is behind it.
func withMark[T any](l []T) []T {
	if l == nil {
		return nil
	}
	return l[:len(l)+1]
}

// onEach is l, in memory of its own, with f done to each of it.
func onEach[T any](l []T, f func(T) T) []T {
	l = slices.Clone(l)
	for i := range l {
		l[i] = f(l[i])
	}
	return l
}

// copyTable is t, in memory of its own, with marks behind all its lists.
func copyTable(t Table) Table {
	t.Spaces = marked(t.Spaces, api.Rect{N: mark})
	t.Cids = marked(t.Cids, api.Span{N: mark})
	t.Nots = marked(t.Nots, api.Span{N: mark})
	t.Bfs = marked(onEach(t.Bfs, func(b api.Bf) api.Bf {
		b.To = marked(b.To, mark)
		return b
	}), api.Bf{N: mark})
	return t
}

// tableMarks is t, of copyTable, with the marks.
func tableMarks(t Table) Table {
	t.Spaces, t.Cids, t.Nots = withMark(t.Spaces), withMark(t.Cids), withMark(t.Nots)
	t.Bfs = onEach(withMark(t.Bfs), func(b api.Bf) api.Bf {
		b.To = withMark(b.To)
		return b
	})
	return t
}

// copyItems is l, in memory of its own, with marks behind all its lists.
func copyItems(l []syn.Item) []syn.Item {
	return marked(onEach(l, func(x syn.Item) syn.Item {
		x.Ents = marked(onEach(x.Ents, func(e syn.Ent) syn.Ent {
			e.U = marked(e.U, mark)
			e.L = marked(onEach(e.L, func(u []int) []int { return marked(u, mark) }), marked([]int{mark}, mark))
			return e
		}), syn.Ent{To: mark})
		return x
	}), syn.Item{Kind: mark})
}

// itemMarks is l, of copyItems, with the marks.
func itemMarks(l []syn.Item) []syn.Item {
	return onEach(withMark(l), func(x syn.Item) syn.Item {
		x.Ents = onEach(withMark(x.Ents), func(e syn.Ent) syn.Ent {
			e.U, e.L = withMark(e.U), onEach(withMark(e.L), withMark)
			return e
		})
		return x
	})
}

// checkTable holds tab, of copyTable(was), and the marks in it, against was.
func checkTable(t *testing.T, call string, tab, was Table) {
	t.Helper()
	if got := tableMarks(tab); !reflect.DeepEqual(got, tableMarks(copyTable(was))) {
		t.Fatalf("%s changed %v to %v", call, was, got)
	}
}

// checkItems holds l, of copyItems(was), and the marks in it, against was.
func checkItems(t *testing.T, call string, l, was []syn.Item) {
	t.Helper()
	if got := itemMarks(l); !reflect.DeepEqual(got, itemMarks(copyItems(was))) {
		t.Fatalf("%s changed %v to %v", call, was, got)
	}
}

func checkSane(t *testing.T, tab Table, want bool) {
	t.Helper()
	in := copyTable(tab)
	if got := Sane(in); got != want {
		t.Fatalf("Sane(%v) = %v", tab, got)
	}
	checkTable(t, "Sane", in, tab)
}

// checkDo holds Do against want, and sees that nothing that was told before is changed by what is told next.
func checkDo(t *testing.T, tab Table, x syn.Item, want Table) {
	t.Helper()
	in, items := copyTable(tab), copyItems([]syn.Item{x})
	got := Do(in, items[0])
	if !equal(got, want) {
		t.Fatalf("Do(%v, %v) = %v, want %v", tab, x, got, want)
	}
	for _, y := range others() {
		next := Do(got, y)
		was := copyTable(next)
		Do(in, y)
		for _, z := range others() {
			Do(got, z)
		}
		if !equal(next, was) || !equal(next, plainDo(want, y)) {
			t.Fatalf("Do(%v, %v) = %v, then %v", want, y, was, next)
		}
	}
	if !equal(got, want) {
		t.Fatalf("Do(%v, %v) = %v, then %v", tab, x, want, got)
	}
	if Sane(in) && !Sane(got) {
		t.Fatalf("Do(%v, %v) = %v, not Sane", tab, x, got)
	}
	checkTable(t, "Do", in, tab)
	checkItems(t, "Do", items, []syn.Item{x})
}

// checkAll holds All and Lists of some items against what these come to.
func checkAll(t *testing.T, l []syn.Item, all, lists Table) {
	t.Helper()
	in := copyItems(l)
	if got := All(in); !equal(got, all) || !Sane(got) {
		t.Fatalf("All(%v) = %v, want %v", l, got, all)
	}
	if got := Lists(in); !equal(got, lists) {
		t.Fatalf("Lists(%v) = %v, want %v", l, got, lists)
	}
	checkItems(t, "All or Lists", in, l)
}

func checkMerge(t *testing.T, a, b, want Table) {
	t.Helper()
	inA, inB := copyTable(a), copyTable(b)
	got := Merge(inA, inB)
	if !equal(got, want) {
		t.Fatalf("Merge(%v, %v) = %v, want %v", a, b, got, want)
	}
	again := Merge(got, inB)
	if Merge(got, full()); !equal(got, want) || !equal(again, plainMerge(want, b)) {
		t.Fatalf("Merge(%v, %v) = %v, then %v, and again %v", a, b, want, got, again)
	}
	checkTable(t, "Merge", inA, a)
	checkTable(t, "Merge", inB, b)
}

// checkCodes holds what a table tells of codes against what the last one of some items tells.
func checkCodes(t *testing.T, l []syn.Item, tab Table, codes []api.Code) {
	t.Helper()
	for _, c := range codes {
		in := slices.ContainsFunc(tab.Spaces, func(r api.Rect) bool { return rect.In(r, c) })
		if in != plainIn(l, c) {
			t.Fatalf("%v is in one of %v: %v; items %v", c, tab.Spaces, in, l)
		}
		cid, is := span.Find(tab.Cids, c, true)
		if num, ok := plainNum(l, c, cidKinds, true); cid != num || is != ok {
			t.Fatalf("%v goes to %v, %v by %v, want %v, %v; items %v", c, cid, is, tab.Cids, num, ok, l)
		}
		not, is := span.Find(tab.Nots, c, false)
		if num, ok := plainNum(l, c, notKinds, false); not != num || is != ok {
			t.Fatalf("%v goes to %v, %v by %v, want %v, %v; items %v", c, not, is, tab.Nots, num, ok, l)
		}
		u, is := dest.Find(tab.Bfs, c)
		if units, ok := plainUnits(l, c); !slices.Equal(u, units) || is != ok {
			t.Fatalf("%v goes to %v, %v by %v, want %v, %v; items %v", c, u, is, tab.Bfs, units, ok, l)
		}
	}
}

// edges are the codes at the ends of all entries, and one beside each.
func edges(l []syn.Item) (out []api.Code) {
	for _, x := range l {
		for _, e := range x.Ents {
			for _, v := range []int{e.Lo.V, e.Hi.V, e.Lo.V/2 + e.Hi.V/2, e.Lo.V + len(e.L)} {
				for d := -1; d <= 1; d++ {
					out = append(out, code(e.Lo.N, v+d))
				}
			}
			out = append(out, code(e.Hi.N, e.Hi.V), code(e.Lo.N+1, e.Lo.V))
		}
	}
	return out
}

// checkWhole holds all that is promised of some items: at once, one after the other, and in two parts.
func checkWhole(t *testing.T, l []syn.Item, cut int) {
	t.Helper()
	all, lists := plainAll(l), plainLists(l)
	checkAll(t, l, all, lists)
	in := copyItems(l)
	var done Table
	for _, x := range in {
		done = Do(done, x)
	}
	if !equal(done, all) {
		t.Fatalf("Do of each of %v = %v, want %v", l, done, all)
	}
	done = All(in[:cut])
	first := copyTable(done)
	for _, x := range in[cut:] {
		done = Do(done, x)
	}
	if !equal(done, all) {
		t.Fatalf("All(%v), and Do of each of %v = %v, want %v", l[:cut], l[cut:], done, all)
	}
	parts := all
	parts.Name, parts.Wmode = first.Name, first.Wmode
	checkMerge(t, first, All(in[cut:]), parts)
	checkMerge(t, Lists(in[:cut]), Lists(in[cut:]), parts)
	checkMerge(t, first, Lists(in[cut:]), parts)
	checkCodes(t, l, All(in), edges(l))
	checkItems(t, "All, Lists or Do", in, l)
}

// someEnt is an entry of any kind, whose ends are often those at which it meets, or joins, others, and that often may not be.
func someEnt(r *rand.Rand) syn.Ent {
	n, most := 1+r.Intn(2), []int{4, 12, 40}[r.Intn(3)]
	if r.Intn(6) == 0 {
		n = 1 + r.Intn(4)
	}
	lo, more := r.Intn(most), r.Intn(most)
	base := []int{0, 0, greatest[n] - most}[r.Intn(3)]
	e := to(n, base+lo, min(base+lo+more, greatest[n]), lo+200*r.Intn(2))
	switch r.Intn(3) {
	case 0:
		e.U = []int{7, e.To}
	case 1:
		e.U = []int{e.To}
	}
	for range r.Intn(12) - 7 {
		e.L = append(e.L, [][]int{{e.To + len(e.L)}, {r.Intn(9)}, {7, r.Intn(9)}, nil, {65536}}[r.Intn(5)])
	}
	if r.Intn(6) == 0 {
		odd := []int{math.MinInt, -1, 0, 1, 5, 255, 256, 65535, 65536, 1 << 24, 1 << 32, math.MaxInt}[r.Intn(12)]
		*[]*int{&e.Lo.N, &e.Hi.N, &e.Lo.V, &e.Hi.V, &e.To}[r.Intn(5)] = odd
	}
	return e
}

// someItem is an item of any kind, and now and then of none.
func someItem(r *rand.Rand) syn.Item {
	x := syn.Item{Kind: r.Intn(9), At: r.Intn(1000)}
	switch r.Intn(12) {
	case 0:
		x.Kind = noKinds[r.Intn(len(noKinds))]
	case 1, 2:
		x.Kind = syn.Def
	}
	x.Name = []string{"CMapName", "WMode", "CMapName ", "wMode", ""}[r.Intn(5)]
	x.Val = api.Tok{Kind: r.Intn(7), N: r.Intn(4) - 1, S: []string{"", "A", "b\x00c", "WMode"}[r.Intn(4)]}
	for range r.Intn(7) {
		x.Ents = append(x.Ents, someEnt(r))
	}
	return x
}

func someItems(r *rand.Rand) (l []syn.Item) {
	for range r.Intn(12) {
		l = append(l, someItem(r))
	}
	return l
}

// someTable is one that is Sane, one that is what is listed, or one that is neither.
func someTable(r *rand.Rand) Table {
	l := someItems(r)
	switch r.Intn(4) {
	case 0:
		return plainLists(l)
	case 1:
		return tables()[r.Intn(4)]
	}
	return plainAll(l)
}

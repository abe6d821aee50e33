package dest

import (
	"cmp"
	"math"
	"math/rand"
	"slices"
	"testing"

	"hornbook/api"
)

// greatest is, for each number of bytes, the greatest number of so many.
var greatest = []int{0, 0xFF, 0xFFFF, 0xFFFFFF, 0xFFFFFFFF}

// oddNs are numbers of bytes that may be, and some that may not.
var oddNs = []int{math.MinInt, -1 << 32, -1, 0, 1, 2, 3, 4, 5, 8, 1<<32 + 1, math.MaxInt}

// oddVs are numbers at the edges of what 1 to 4 bytes may be.
var oddVs = []int{
	math.MinInt, -1<<32 + 1, -256, -1, 0, 1, 0x80, 0xFE, 0xFF, 0x100, 0x8140, 0xFFFE, 0xFFFF, 0x10000, 0x10001,
	0xFFFFFE, 0xFFFFFF, 0x1000000, 0x7FFFFFFF, 0xFFFF0000, 0xFFFFFFFE, 0xFFFFFFFF, 0x100000000, math.MaxInt,
}

// oddTos are units, at the edges of what these may be, and of how many there may be.
var oddTos = [][]int{
	nil, {}, {0}, {65}, {0xFF00}, {0xFF01}, {0xFFFE}, {0xFFFF}, {0x10000}, {-1}, {math.MinInt}, {math.MaxInt},
	{0, 0}, {0xFFFF, 0}, {0, 0xFFFF}, {0x10000, 0}, {-1, 0}, {0, -1}, {3, math.MaxInt}, {math.MinInt, 3}, {3, 4, 5},
	many(63, 7), many(64, 0), many(64, 0xFF00), many(64, 0xFFFF), many(65, 0), many(65, 7), many(1000, 0),
}

func one(n, lo, hi int, to ...int) api.Bf { return api.Bf{N: n, Lo: lo, Hi: hi, To: to} }

func code(n, v int) api.Code { return api.Code{N: n, V: v} }

// many is u, so many times.
func many(n, u int) []int { return slices.Repeat([]int{u}, n) }

// with is l, with one of it another one.
func with(l []int, at, u int) []int {
	l = slices.Clone(l)
	l[at] = u
	return l
}

// sane are ones that may be.
var sane = []api.Bf{
	one(1, 0, 0, 0), one(1, 0, 0, 65535), one(1, 0, 255, 0), one(1, 255, 255, 65535), one(1, 0, 255, 65280), one(1, 5, 9, 3), one(1, 5, 5, 3), one(1, 5, 9, 65531),
	one(1, 5, 9, 3, 65), one(1, 5, 9, 65535, 0), one(1, 5, 9, 65535, 65531), one(1, 5, 5, 65535, 65535), one(1, 5, 9, 0, 0), one(1, 5, 9, 1, 2, 3), one(1, 5, 9, 0xD83D, 0xDE00), one(1, 5, 9, 0xD800),
	one(1, 5, 9, many(64, 0)...), one(1, 5, 9, many(63, 7)...), one(1, 0, 255, many(64, 65280)...), one(1, 5, 5, many(64, 65535)...),
	one(2, 0, 0, 0), one(2, 0, 65535, 0), one(2, 65535, 65535, 65535), one(2, 0x8140, 0x9FFC, 633), one(2, 1, 65535, 1), one(2, 0, 65535, 65535, 0), one(2, 5, 9, 3),
	one(3, 0, 0, 0), one(3, 0xFFFFFF, 0xFFFFFF, 65535), one(3, 0xFF0000, 0xFFFFFF, 0), one(3, 0, 65535, 0), one(3, 0x810000, 0x8100FF, 4, 5, 6),
	one(4, 0, 0, 0), one(4, 0xFFFFFFFF, 0xFFFFFFFF, 65535), one(4, 0xFFFF0000, 0xFFFFFFFF, 0), one(4, 0xFFFFFF00, 0xFFFFFFFF, 65280), one(4, 0x7FFFFFFF, 0x80000000, 1), one(4, 0xFFFFFFF0, 0xFFFFFFFF, 0, 65520),
}

// wrong are ones that may not be: by their number of bytes, by their codes, by how many units they have, by these, and by the last one at Hi.
var wrong = []api.Bf{
	{}, one(0, 0, 0, 0), one(0, 0, 1, 5), one(0, 5, 9, 3), one(-1, 0, 0, 0), one(-1, 5, 9, 3), one(5, 0, 0, 0), one(5, 5, 9, 3), one(5, 0, 0xFFFFFFFFFF, 0), one(math.MinInt, 0, 0, 0), one(math.MaxInt, 0, 0, 0), one(1<<32+1, 5, 9, 3), one(-4, 5, 9, 3),
	one(1, 9, 5, 3), one(1, 6, 5, 3), one(1, 255, 0, 3), one(1, 0, 256, 3), one(1, 256, 256, 3), one(1, 255, 256, 3), one(1, -1, 9, 3), one(1, -1, -1, 3), one(1, 0, -1, 3), one(1, 256, 5, 3),
	one(2, 0, 65536, 0), one(2, 65536, 65536, 0), one(2, 65535, 65536, 0), one(2, -1, 65535, 0), one(2, 0x9FFC, 0x8140, 633), one(2, 0x8141, 0x8140, 633),
	one(3, 0xFFFFFF, 0x1000000, 0), one(3, 0x1000000, 0x1000000, 0), one(3, -1, 0, 0), one(3, 1, 0, 0),
	one(4, 0xFFFFFFFF, 0x100000000, 0), one(4, 0x100000000, 0x100000000, 0), one(4, -1, 0, 0), one(4, math.MinInt, math.MaxInt, 0), one(4, math.MinInt, math.MinInt, 0), one(4, math.MaxInt, math.MaxInt, 0), one(4, 0xFFFFFFFF, 0xFFFFFFFE, 0), one(4, math.MaxInt, math.MinInt, math.MinInt), one(4, math.MinInt, 0, math.MaxInt),
	one(1, 5, 9), one(1, 5, 5), {N: 1, Lo: 5, Hi: 9, To: []int{}}, one(1, 0, 0), one(4, 0, 0),
	one(1, 5, 9, many(65, 0)...), one(1, 5, 5, many(65, 7)...), one(1, 5, 9, many(1000, 0)...), one(4, 0, 0, many(65, 0)...),
	one(1, 5, 9, -1), one(1, 5, 5, -1), one(1, 5, 9, -5), one(1, 5, 9, 65536), one(1, 5, 5, 65536), one(1, 5, 9, math.MinInt), one(1, 5, 9, math.MaxInt), one(1, 5, 5, math.MaxInt), one(1, 5, 5, math.MinInt),
	one(1, 5, 9, -1, 3), one(1, 5, 9, 65536, 3), one(1, 5, 9, 3, -1), one(1, 5, 9, 3, 65536), one(1, 5, 5, 3, 65536), one(1, 5, 9, 3, -1, 3), one(1, 5, 9, 3, 65536, 3), one(1, 5, 9, 3, math.MaxInt), one(1, 5, 9, math.MaxInt, 3), one(1, 5, 9, math.MinInt, 3),
	one(1, 5, 9, with(many(64, 0), 0, -1)...), one(1, 5, 9, with(many(64, 0), 63, 65536)...), one(1, 5, 9, with(many(64, 0), 30, 65536)...), one(1, 5, 9, with(many(64, 0), 63, -1)...),
	one(1, 0, 1, 65535), one(1, 5, 9, 65532), one(1, 0, 255, 65281), one(1, 0, 255, 65535), one(1, 254, 255, 65535), one(1, 5, 9, 0, 65532), one(1, 5, 6, many(64, 65535)...), one(2, 0, 65535, 1), one(2, 0, 65535, 65535), one(2, 1, 65535, 2), one(2, 0, 65535, 0, 1),
	one(3, 0, 65536, 0), one(3, 0, 0xFFFFFF, 0), one(3, 0, 0xFFFFFF, 65535), one(4, 0xFFFEFFFF, 0xFFFFFFFF, 0), one(4, 0, 0xFFFFFFFF, 0), one(4, 0, 0xFFFFFFFF, 65535), one(4, 0xFFFFFF00, 0xFFFFFFFF, 65281),
}

func plainCode(c api.Code) bool { return c.N >= 1 && c.N <= 4 && c.V >= 0 && c.V <= greatest[c.N] }

func plainSane(b api.Bf) bool {
	if !plainCode(code(b.N, b.Lo)) || !plainCode(code(b.N, b.Hi)) || b.Lo > b.Hi || len(b.To) == 0 || len(b.To) > 64 {
		return false
	}
	last := 0
	for _, u := range b.To {
		if u < 0 || u > 65535 {
			return false
		}
		last = u
	}
	return b.Hi-b.Lo <= 65535-last
}

func plainTo(b api.Bf, c api.Code) ([]int, bool) {
	if !plainSane(b) || !plainCode(c) || b.N != c.N || c.V < b.Lo || b.Hi < c.V {
		return nil, false
	}
	var l []int
	for i, u := range b.To {
		if i == len(b.To)-1 {
			u = c.V - b.Lo + u
		}
		l = append(l, u)
	}
	return l, true
}

func plainLast(l []api.Bf, c api.Code) (to []int, ok bool) {
	for _, b := range l {
		if u, is := plainTo(b, c); is {
			to, ok = u, true
		}
	}
	return to, ok
}

// plainOne: could b be one with a, ahead of it? It could if a, with one code more, may be and leads that code where b leads it.
func plainOne(a, b api.Bf) bool {
	a.Hi++
	to, ok := plainTo(a, code(b.N, b.Lo))
	return ok && a.Hi == b.Lo && slices.Equal(to, b.To)
}

func plainCanon(t []api.Bf) bool {
	for i, b := range t {
		if !plainSane(b) {
			return false
		}
		for _, r := range t[:i] {
			if r.N > b.N || r.N == b.N && r.Hi >= b.Lo {
				return false
			}
		}
		if i > 0 && plainOne(t[i-1], b) {
			return false
		}
	}
	return true
}

// plainBuild cuts the codes at all ends of all of l: between two of these cuts one alone tells of all codes.
func plainBuild(l []api.Bf) (out []api.Bf) {
	var cuts []api.Code
	for _, b := range l {
		if plainSane(b) {
			cuts = append(cuts, code(b.N, b.Lo), code(b.N, b.Hi+1))
		}
	}
	slices.SortFunc(cuts, func(a, b api.Code) int { return cmp.Or(cmp.Compare(a.N, b.N), cmp.Compare(a.V, b.V)) })
	for i, c := range cuts {
		to, ok := plainLast(l, c)
		if i+1 == len(cuts) || c == cuts[i+1] || !ok {
			continue
		}
		b := one(c.N, c.V, cuts[i+1].V-1, to...)
		if n := len(out); n > 0 && plainOne(out[n-1], b) {
			out[n-1].Hi = b.Hi
		} else {
			out = append(out, b)
		}
	}
	return out
}

// plainRows goes over each of a table code by code.
func plainRows(t []api.Bf) (out []api.Bf) {
	if !plainCanon(t) {
		return nil
	}
	for _, b := range t {
		for v := b.Lo; v <= b.Hi; v++ {
			to, _ := plainTo(b, code(b.N, v))
			if v == b.Lo || v%256 == 0 || to[len(to)-1]%256 == 0 {
				out = append(out, one(b.N, v, v, to...))
			}
			out[len(out)-1].Hi = v
		}
	}
	return out
}

// edges are the codes at the ends of all of l, and one beside each, of their own number of bytes and of others.
func edges(l []api.Bf) (out []api.Code) {
	for _, b := range l {
		for _, v := range []int{b.Lo, b.Hi, b.Lo/2 + b.Hi/2} {
			for _, d := range []int{-1, 0, 1} {
				out = append(out, code(b.N, v+d))
			}
		}
		out = append(out, code(b.N+1, b.Lo), code(b.N-1, b.Hi))
	}
	return out
}

func equal(a, b api.Bf) bool {
	return a.N == b.N && a.Lo == b.Lo && a.Hi == b.Hi && slices.Equal(a.To, b.To)
}

func equalAll(a, b []api.Bf) bool { return slices.EqualFunc(a, b, equal) }

// mark is what stands behind a list that is handed in, and behind the units of each of it.
const mark = -77

// copyOne is b with units of its own, behind which there is room, with a mark in it.
func copyOne(b api.Bf) api.Bf {
	b.To = append(slices.Clone(b.To), mark)[:len(b.To)]
	return b
}

// copyAll is l as copyOne, with a mark behind it.
func copyAll(l []api.Bf) []api.Bf {
	var out []api.Bf
	for _, b := range l {
		out = append(out, copyOne(b))
	}
	return append(out, api.Bf{N: mark})[:len(l)]
}

// keptOne: is b, that was handed in as copyOne of was, as it was, with the mark behind it?
func keptOne(b, was api.Bf) bool { return equal(b, was) && b.To[:len(b.To)+1][len(b.To)] == mark }

// checkKept: is l, that was handed in as copyAll of was, as it was, with the marks behind it?
func checkKept(t *testing.T, call string, l, was []api.Bf) {
	t.Helper()
	if !slices.EqualFunc(l, was, keptOne) || l[:len(l)+1][len(l)].N != mark {
		t.Fatalf("%s changed %v to %v", call, was, l)
	}
}

func checkSane(t *testing.T, b api.Bf, want bool) {
	t.Helper()
	in := copyOne(b)
	if got := Sane(in); got != want {
		t.Fatalf("Sane(%v) = %v", b, got)
	}
	if !keptOne(in, b) {
		t.Fatalf("Sane changed %v to %v", b, in)
	}
}

// checkTold holds what a call tells of a code against want.
func checkTold(t *testing.T, call string, of any, c api.Code, got []int, is bool, want []int, ok bool) {
	t.Helper()
	if is != ok || !slices.Equal(got, want) {
		t.Fatalf("%s(%v, %v) = %v, %v, want %v, %v", call, of, c, got, is, want, ok)
	}
}

func checkTo(t *testing.T, b api.Bf, c api.Code, want []int, ok bool) {
	t.Helper()
	in := copyOne(b)
	got, is := To(in, c)
	checkTold(t, "To", b, c, got, is, want, ok)
	if !keptOne(in, b) {
		t.Fatalf("To changed %v to %v", b, in)
	}
}

func checkLast(t *testing.T, l []api.Bf, c api.Code, want []int, ok bool) {
	t.Helper()
	in := copyAll(l)
	got, is := Last(in, c)
	checkTold(t, "Last", l, c, got, is, want, ok)
	checkKept(t, "Last", in, l)
}

func checkFind(t *testing.T, tab []api.Bf, c api.Code, want []int, ok bool) {
	t.Helper()
	in := copyAll(tab)
	got, is := Find(in, c)
	checkTold(t, "Find", tab, c, got, is, want, ok)
	checkKept(t, "Find", in, tab)
}

func checkCanon(t *testing.T, tab []api.Bf, want bool) {
	t.Helper()
	in := copyAll(tab)
	if got := Canon(in); got != want {
		t.Fatalf("Canon(%v) = %v", tab, got)
	}
	checkKept(t, "Canon", in, tab)
}

// checkBuild holds all that is promised of Build, and of Find by it, against want.
func checkBuild(t *testing.T, l, want []api.Bf) {
	t.Helper()
	in := copyAll(l)
	got := Build(in)
	if !equalAll(got, want) {
		t.Fatalf("Build(%v) = %v, want %v", l, got, want)
	}
	checkKept(t, "Build", in, l)
	if !Canon(got) {
		t.Fatalf("Build(%v) = %v, not Canon", l, got)
	}
	if again := Build(got); !equalAll(again, want) {
		t.Fatalf("Build of the table %v = %v", got, again)
	}
	checkTable(t, in, got, edges(l))
	checkKept(t, "Last", in, l)
	if !equalAll(got, want) {
		t.Fatalf("Find, Canon or Build changed the table %v to %v", want, got)
	}
}

// checkTable: does Find tell by a table, of each of some codes, what Last tells of the list?
func checkTable(t *testing.T, l, tab []api.Bf, codes []api.Code) {
	t.Helper()
	for _, c := range codes {
		want, ok := plainLast(l, c)
		got, is := Last(l, c)
		checkTold(t, "Last", l, c, got, is, want, ok)
		got, is = Find(tab, c)
		checkTold(t, "Find", tab, c, got, is, want, ok)
	}
}

// checkByRows: does Last tell by the rows, of some of the codes round their ends and others, what it tells by the list?
func checkByRows(t *testing.T, r *rand.Rand, l, rows []api.Bf) {
	t.Helper()
	codes := edges(rows)
	r.Shuffle(len(codes), func(i, j int) { codes[i], codes[j] = codes[j], codes[i] })
	for _, c := range slices.Concat(edges(l), codes[:min(len(codes), 200)]) {
		want, ok := plainLast(l, c)
		got, is := Last(rows, c)
		checkTold(t, "Last", rows, c, got, is, want, ok)
	}
}

// checkRows holds all that is promised of Rows against want.
func checkRows(t *testing.T, tab, want []api.Bf) {
	t.Helper()
	in := copyAll(tab)
	got := Rows(in)
	if !equalAll(got, want) {
		t.Fatalf("Rows(%v) = %v, want %v", tab, got, want)
	}
	checkKept(t, "Rows", in, tab)
}

// someUnits are few enough that two are often the same, or differ in the last one alone, in another one alone, or in how many they are.
func someUnits(r *rand.Rand, last int) []int {
	switch r.Intn(5) {
	case 0:
		return []int{r.Intn(2), last}
	case 1:
		return []int{7, r.Intn(2), last}
	}
	return []int{last}
}

// someBf is one whose ends and whose units are often those at which it meets, or joins, others.
func someBf(r *rand.Rand, n, most int) api.Bf {
	base := []int{0, greatest[n] - most}[r.Intn(2)]
	x, y := r.Intn(most+1), r.Intn(most+1)
	if r.Intn(4) == 0 {
		y = x
	}
	lo, hi := min(x, y), max(x, y)
	last := lo + 250*r.Intn(2) // those with the same multiple join
	switch r.Intn(8) {
	case 0:
		last = r.Intn(3)
	case 1:
		last = 65535 - r.Intn(most+1)
	}
	return one(n, base+lo, base+hi, someUnits(r, last)...)
}

func someList(r *rand.Rand) (l []api.Bf) {
	most := []int{3, 9, 30, 255}[r.Intn(4)]
	ns := 1 + r.Intn(4)
	for range r.Intn(25) {
		if r.Intn(8) == 0 {
			l = append(l, wrong[r.Intn(len(wrong))])
		} else {
			l = append(l, someBf(r, 1+r.Intn(ns), most))
		}
	}
	return l
}

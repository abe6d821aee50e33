package dest

import (
	"encoding/binary"
	"math/rand"
	"testing"

	"hornbook/api"
)

// rows are lists, and their rows.
var rows = []struct{ t, want []api.Bf }{
	// no table, and what is none
	{nil, nil}, {[]api.Bf{}, nil},
	{[]api.Bf{one(1, 10, 20, 65), one(1, 21, 22, 76)}, nil}, {[]api.Bf{one(1, 10, 20, 65), one(1, 20, 22, 7)}, nil}, {[]api.Bf{one(1, 21, 22, 7), one(1, 10, 20, 65)}, nil}, {[]api.Bf{one(2, 1, 1, 7), one(1, 1, 1, 7)}, nil}, {[]api.Bf{{}}, nil}, {[]api.Bf{one(2, 240, 272, 65), one(2, 300, 299, 7)}, nil}, {[]api.Bf{one(2, 240, 272, 65), one(2, 300, 300)}, nil},
	// no cut
	{[]api.Bf{one(1, 10, 20, 65)}, []api.Bf{one(1, 10, 20, 65)}}, {[]api.Bf{one(1, 10, 20, 3, 65)}, []api.Bf{one(1, 10, 20, 3, 65)}}, {[]api.Bf{one(2, 255, 255, 255)}, []api.Bf{one(2, 255, 255, 255)}}, {[]api.Bf{one(2, 256, 256, 256)}, []api.Bf{one(2, 256, 256, 256)}}, {[]api.Bf{one(1, 0, 255, 0)}, []api.Bf{one(1, 0, 255, 0)}}, {[]api.Bf{one(2, 512, 767, 256)}, []api.Bf{one(2, 512, 767, 256)}},
	{[]api.Bf{one(2, 0x100, 0x1FE, 1)}, []api.Bf{one(2, 0x100, 0x1FE, 1)}}, {[]api.Bf{one(2, 0x101, 0x1FF, 0)}, []api.Bf{one(2, 0x101, 0x1FF, 0)}},
	// the other units come to no cut, whatever they are
	{[]api.Bf{one(2, 0, 20, 255, 0)}, []api.Bf{one(2, 0, 20, 255, 0)}}, {[]api.Bf{one(2, 0, 20, 256, 255, 9)}, []api.Bf{one(2, 0, 20, 256, 255, 9)}},
	// by the codes
	{[]api.Bf{one(2, 0xF0, 0x110, 0x41)}, []api.Bf{one(2, 0xF0, 0xFF, 0x41), one(2, 0x100, 0x110, 0x51)}}, {[]api.Bf{one(2, 255, 256, 7)}, []api.Bf{one(2, 255, 255, 7), one(2, 256, 256, 8)}}, {[]api.Bf{one(2, 0xF0, 0x110, 3, 0x41)}, []api.Bf{one(2, 0xF0, 0xFF, 3, 0x41), one(2, 0x100, 0x110, 3, 0x51)}},
	{[]api.Bf{one(3, 0xFFFF, 0x10000, 7)}, []api.Bf{one(3, 0xFFFF, 0xFFFF, 7), one(3, 0x10000, 0x10000, 8)}}, {[]api.Bf{one(4, 0xFFFFFEFF, 0xFFFFFF00, 7)}, []api.Bf{one(4, 0xFFFFFEFF, 0xFFFFFEFF, 7), one(4, 0xFFFFFF00, 0xFFFFFF00, 8)}}, {[]api.Bf{one(4, 0x7FFFFFFF, 0x80000000, 7)}, []api.Bf{one(4, 0x7FFFFFFF, 0x7FFFFFFF, 7), one(4, 0x80000000, 0x80000000, 8)}},
	// by the last units
	{[]api.Bf{one(2, 0, 20, 1, 250)}, []api.Bf{one(2, 0, 5, 1, 250), one(2, 6, 20, 1, 256)}}, {[]api.Bf{one(1, 10, 11, 255)}, []api.Bf{one(1, 10, 10, 255), one(1, 11, 11, 256)}}, {[]api.Bf{one(1, 0, 255, 1)}, []api.Bf{one(1, 0, 254, 1), one(1, 255, 255, 256)}}, {[]api.Bf{one(1, 0, 255, 65279)}, []api.Bf{one(1, 0, 0, 65279), one(1, 1, 255, 65280)}}, {[]api.Bf{one(1, 0, 9, 65535, 0xDFFC)}, []api.Bf{one(1, 0, 3, 65535, 0xDFFC), one(1, 4, 9, 65535, 0xE000)}},
	// by both at one place, one code beside each other, and further apart
	{[]api.Bf{one(2, 240, 272, 496)}, []api.Bf{one(2, 240, 255, 496), one(2, 256, 272, 512)}},
	{[]api.Bf{one(2, 240, 272, 497)}, []api.Bf{one(2, 240, 254, 497), one(2, 255, 255, 512), one(2, 256, 272, 513)}},
	{[]api.Bf{one(2, 240, 272, 495)}, []api.Bf{one(2, 240, 255, 495), one(2, 256, 256, 511), one(2, 257, 272, 512)}},
	{[]api.Bf{one(2, 240, 272, 8, 506)}, []api.Bf{one(2, 240, 245, 8, 506), one(2, 246, 255, 8, 512), one(2, 256, 272, 8, 522)}},
	// one that begins at a multiple, and one that ends at one, or just ahead of it: by codes, by units, by both
	{[]api.Bf{one(2, 256, 300, 7)}, []api.Bf{one(2, 256, 300, 7)}}, {[]api.Bf{one(2, 10, 20, 256)}, []api.Bf{one(2, 10, 20, 256)}}, {[]api.Bf{one(2, 256, 300, 512)}, []api.Bf{one(2, 256, 300, 512)}},
	{[]api.Bf{one(2, 250, 256, 7)}, []api.Bf{one(2, 250, 255, 7), one(2, 256, 256, 13)}}, {[]api.Bf{one(2, 250, 255, 7)}, []api.Bf{one(2, 250, 255, 7)}}, {[]api.Bf{one(2, 10, 20, 246)}, []api.Bf{one(2, 10, 19, 246), one(2, 20, 20, 256)}}, {[]api.Bf{one(2, 10, 20, 245)}, []api.Bf{one(2, 10, 20, 245)}}, {[]api.Bf{one(2, 250, 256, 506)}, []api.Bf{one(2, 250, 255, 506), one(2, 256, 256, 512)}},
	{[]api.Bf{one(2, 256, 512, 0)}, []api.Bf{one(2, 256, 511, 0), one(2, 512, 512, 256)}},
	// several multiples, of the codes, of the units, of both at one place, and at different ones
	{[]api.Bf{one(2, 0, 600, 10)}, []api.Bf{one(2, 0, 245, 10), one(2, 246, 255, 256), one(2, 256, 501, 266), one(2, 502, 511, 512), one(2, 512, 600, 522)}},
	{[]api.Bf{one(2, 100, 800, 9, 100)}, []api.Bf{one(2, 100, 255, 9, 100), one(2, 256, 511, 9, 256), one(2, 512, 767, 9, 512), one(2, 768, 800, 9, 768)}},
	{[]api.Bf{one(4, 0xFFFFFDFF, 0xFFFFFFFF, 0xFDFF)}, []api.Bf{one(4, 0xFFFFFDFF, 0xFFFFFDFF, 0xFDFF), one(4, 0xFFFFFE00, 0xFFFFFEFF, 0xFE00), one(4, 0xFFFFFF00, 0xFFFFFFFF, 0xFF00)}},
	// some, of which each is cut on its own: rows of two are never one
	{[]api.Bf{one(1, 255, 255, 7), one(2, 250, 260, 7), one(2, 300, 301, 255), one(4, 0, 0, 0)}, []api.Bf{one(1, 255, 255, 7), one(2, 250, 255, 7), one(2, 256, 260, 13), one(2, 300, 300, 255), one(2, 301, 301, 256), one(4, 0, 0, 0)}},
}

// P8.5
func TestRows(t *testing.T) {
	for _, x := range rows {
		checkRows(t, x.t, x.want)
	}
}

// P8.5: what is no table has no rows, and each table its own.
func TestRowsCanon(t *testing.T) {
	for _, x := range canons {
		checkRows(t, x.t, plainRows(x.t))
		if got := Rows(x.t); (len(got) > 0) != (x.want && len(x.t) > 0) {
			t.Errorf("Rows(%v) = %v", x.t, got)
		}
	}
	for _, b := range sane {
		checkRows(t, []api.Bf{b}, plainRows([]api.Bf{b}))
	}
}

// P8.5: all of one code to 600 round each place of multiples.
func TestRowsRound(t *testing.T) {
	for _, lo := range []int{0, 1, 200, 255, 256, 257} {
		for _, u := range []int{0, 1, 54, 255, 256, 257, 511, 512, 64000} {
			for more := range 600 {
				for _, base := range []int{0, 0x10000, 0xFFFF0000} {
					b := one(4, base+lo, base+lo+more, 255, u)
					checkRows(t, []api.Bf{b}, plainRows([]api.Bf{b}))
				}
			}
		}
	}
}

// wide is one of many codes, so that it is cut often.
func wide(r *rand.Rand) api.Bf {
	n := 2 + r.Intn(3)
	most := []int{300, 3000, 65535}[r.Intn(3)]
	lo := r.Intn(65536 - most)
	more := r.Intn(most + 1)
	if n > 2 {
		lo += 256 * r.Intn(5)
	}
	return one(n, lo, lo+more, someUnits(r, r.Intn(65536-more))...)
}

// P8.5, P8.6: rows are a list that is Sane, in order, in which neither codes nor last units pass a multiple; each code goes by them where it goes by the table, and they are no table's but this one's.
func TestRowsSome(t *testing.T) {
	rnd := rand.New(rand.NewSource(87))
	for range 300 {
		var l []api.Bf
		for range 1 + rnd.Intn(6) {
			l = append(l, wide(rnd))
		}
		l = append(l, someList(rnd)...)
		tab := Build(l)
		checkRows(t, tab, plainRows(tab))
		got := Rows(tab)
		for i, b := range got {
			if !Sane(b) || i > 0 && !(got[i-1].N < b.N || got[i-1].Hi < b.Lo) {
				t.Fatalf("rows that are not Sane, or not in order: %v", got)
			}
			a, z := b.To[len(b.To)-1], b.To[len(b.To)-1]+b.Hi-b.Lo
			if b.Lo/256 != b.Hi/256 || a/256 != z/256 {
				t.Fatalf("a row that passes a multiple: %v", b)
			}
		}
		if again := Build(got); !equalAll(again, tab) {
			t.Fatalf("Build of the rows of %v = %v", tab, again)
		}
		checkTable(t, l, tab, edges(l))
		checkByRows(t, rnd, l, got)
	}
}

// P8.6: each code at all, by what is listed, by the table, and by the rows.
func TestEachCode(t *testing.T) {
	rnd := rand.New(rand.NewSource(88))
	for range 12 {
		l := []api.Bf{wide(rnd), someBf(rnd, 2, 255), wide(rnd), someBf(rnd, 2, 30), someBf(rnd, 1, 255)}
		tab := Build(l)
		cut := Rows(tab)
		for v := range 65536 {
			for n := 1; n <= 4; n++ {
				c := code(n, v)
				want, ok := plainLast(l, c)
				got, is := Find(tab, c)
				checkTold(t, "Find", tab, c, got, is, want, ok)
				got, is = Last(cut, c)
				checkTold(t, "Last", cut, c, got, is, want, ok)
			}
		}
	}
}

// P1: as many rows as there may be of one.
func TestRowsMany(t *testing.T) {
	for _, x := range []struct {
		b    api.Bf
		want int
	}{
		{one(2, 0, 65535, 0), 256}, {one(2, 0, 65535, 65535, 0), 256}, {one(2, 1, 65535, 0), 511}, {one(3, 128, 128+65535, 0), 512}, {one(4, 0xFFFF0000, 0xFFFFFFFF, many(64, 0)...), 256}, {one(4, 0xFFFEFFFF, 0xFFFFFFFE, many(64, 0)...), 512},
	} {
		got := Rows([]api.Bf{x.b})
		if len(got) != x.want || !equalAll(got, plainRows([]api.Bf{x.b})) {
			t.Errorf("Rows of %d to %d: %d, want %d", x.b.Lo, x.b.Hi, len(got), x.want)
		}
		checkByRows(t, rand.New(rand.NewSource(89)), []api.Bf{x.b}, got)
	}
}

// listOf makes of bytes a list: of each, how many bytes its codes have, the two numbers, how many units, and these.
func listOf(b []byte) (l []api.Bf) {
	for len(b) >= 10 && len(l) < 100 {
		x := one(int(int8(b[0])), int(binary.BigEndian.Uint32(b[1:])), int(binary.BigEndian.Uint32(b[5:])))
		many := int(b[9] % 70)
		b = b[10:]
		for ; many > 0 && len(b) >= 3; many-- {
			x.To = append(x.To, int(int8(b[0]))<<16|int(b[1])<<8|int(b[2]))
			b = b[3:]
		}
		l = append(l, x)
	}
	return l
}

// P8.1 to P8.6 and P1 at bytes of any kind.
func FuzzBytes(f *testing.F) {
	f.Add([]byte{2, 0, 0, 0, 240, 0, 0, 1, 16, 1, 0, 0, 65, 2, 0, 0, 0, 250, 0, 0, 0, 250, 2, 0, 0, 9, 0, 0, 8}, 2, 256)
	f.Add([]byte{1, 0, 0, 0, 10, 0, 0, 0, 12, 2, 0, 0, 3, 0, 0, 65, 1, 0, 0, 0, 13, 0, 0, 0, 20, 2, 0, 0, 3, 0, 0, 68}, 1, 15)
	f.Add([]byte{4, 255, 255, 0, 0, 255, 255, 255, 255, 1, 0, 0, 0, 5, 0, 0, 0, 0, 0, 0, 0, 0, 0}, 4, 0xFFFFFFFF)
	f.Fuzz(func(t *testing.T, b []byte, n, v int) {
		l := listOf(b)
		for _, x := range l {
			checkSane(t, x, plainSane(x))
			to, ok := plainTo(x, code(n, v))
			checkTo(t, x, code(n, v), to, ok)
		}
		checkCanon(t, l, plainCanon(l))
		want := plainBuild(l)
		checkBuild(t, l, want)
		to, ok := plainLast(l, code(n, v))
		checkLast(t, l, code(n, v), to, ok)
		checkFind(t, want, code(n, v), to, ok)
		checkRows(t, l, plainRows(l))
		checkRows(t, want, plainRows(want))
		checkLast(t, Rows(want), code(n, v), to, ok)
	})
}

package dest

import (
	"math"
	"math/rand"
	"slices"
	"testing"

	"hornbook/api"
)

// Tables behind which one is put: one, with one unit and with two; some with gaps between them; and two that what is put between them joins.
var (
	base  = []api.Bf{one(1, 10, 20, 100)}
	two   = []api.Bf{one(1, 10, 20, 3, 100)}
	three = []api.Bf{one(1, 10, 14, 100), one(1, 20, 24, 8, 150), one(1, 30, 34, 10)}
	gaps  = []api.Bf{one(1, 10, 14, 3, 100), one(1, 20, 24, 3, 110)}
)

// puts are tables, with one put behind them, and what comes of it.
var puts = []struct {
	t    []api.Bf
	b    api.Bf
	want []api.Bf
}{
	{nil, one(1, 10, 20, 100), base},
	// ahead of another one, and behind it
	{base, one(1, 2, 5, 50), []api.Bf{one(1, 2, 5, 50), base[0]}},
	{base, one(1, 2, 9, 50), []api.Bf{one(1, 2, 9, 50), base[0]}},
	{base, one(1, 30, 35, 50), []api.Bf{base[0], one(1, 30, 35, 50)}},
	{base, one(1, 21, 35, 50), []api.Bf{base[0], one(1, 21, 35, 50)}},
	// over its first part
	{base, one(1, 8, 12, 50), []api.Bf{one(1, 8, 12, 50), one(1, 13, 20, 103)}},
	{base, one(1, 10, 12, 50), []api.Bf{one(1, 10, 12, 50), one(1, 13, 20, 103)}},
	{base, one(1, 10, 10, 50), []api.Bf{one(1, 10, 10, 50), one(1, 11, 20, 101)}},
	{base, one(1, 9, 10, 50), []api.Bf{one(1, 9, 10, 50), one(1, 11, 20, 101)}},
	{base, one(1, 10, 19, 50), []api.Bf{one(1, 10, 19, 50), one(1, 20, 20, 110)}},
	{two, one(1, 8, 12, 50), []api.Bf{one(1, 8, 12, 50), one(1, 13, 20, 3, 103)}},
	// over its last part
	{base, one(1, 18, 25, 50), []api.Bf{one(1, 10, 17, 100), one(1, 18, 25, 50)}},
	{base, one(1, 18, 20, 50), []api.Bf{one(1, 10, 17, 100), one(1, 18, 20, 50)}},
	{base, one(1, 20, 20, 50), []api.Bf{one(1, 10, 19, 100), one(1, 20, 20, 50)}},
	{base, one(1, 20, 21, 50), []api.Bf{one(1, 10, 19, 100), one(1, 20, 21, 50)}},
	{base, one(1, 11, 20, 50), []api.Bf{one(1, 10, 10, 100), one(1, 11, 20, 50)}},
	{two, one(1, 18, 25, 50), []api.Bf{one(1, 10, 17, 3, 100), one(1, 18, 25, 50)}},
	// into its midst
	{base, one(1, 14, 16, 50), []api.Bf{one(1, 10, 13, 100), one(1, 14, 16, 50), one(1, 17, 20, 107)}},
	{base, one(1, 15, 15, 9, 8), []api.Bf{one(1, 10, 14, 100), one(1, 15, 15, 9, 8), one(1, 16, 20, 106)}},
	{base, one(1, 11, 19, 0), []api.Bf{one(1, 10, 10, 100), one(1, 11, 19, 0), one(1, 20, 20, 110)}},
	{two, one(1, 14, 16, 50), []api.Bf{one(1, 10, 13, 3, 100), one(1, 14, 16, 50), one(1, 17, 20, 3, 107)}},
	// over all of it
	{base, one(1, 10, 20, 50), []api.Bf{one(1, 10, 20, 50)}},
	{base, one(1, 9, 20, 50), []api.Bf{one(1, 9, 20, 50)}},
	{base, one(1, 10, 21, 50), []api.Bf{one(1, 10, 21, 50)}},
	{base, one(1, 0, 255, 50), []api.Bf{one(1, 0, 255, 50)}},
	{two, one(1, 10, 20, 100), base},
	{base, one(1, 10, 20, 3, 100), two},
	// the same one twice, and one that tells of some codes what is told of them, or that of all but one unit, or of how many there are
	{base, base[0], base},
	{two, two[0], two},
	{base, one(1, 14, 16, 104), base},
	{base, one(1, 14, 16, 100), []api.Bf{one(1, 10, 13, 100), one(1, 14, 16, 100), one(1, 17, 20, 107)}},
	{base, one(1, 14, 25, 104), []api.Bf{one(1, 10, 25, 100)}},
	{base, one(1, 8, 15, 98), []api.Bf{one(1, 8, 20, 98)}},
	{base, one(1, 8, 25, 98), []api.Bf{one(1, 8, 25, 98)}},
	{two, one(1, 14, 16, 3, 104), two},
	{two, one(1, 14, 16, 4, 104), []api.Bf{one(1, 10, 13, 3, 100), one(1, 14, 16, 4, 104), one(1, 17, 20, 3, 107)}},
	{two, one(1, 14, 16, 104), []api.Bf{one(1, 10, 13, 3, 100), one(1, 14, 16, 104), one(1, 17, 20, 3, 107)}},
	{two, one(1, 14, 16, 3, 3, 104), []api.Bf{one(1, 10, 13, 3, 100), one(1, 14, 16, 3, 3, 104), one(1, 17, 20, 3, 107)}},
	// several: ahead, behind, between, over the first parts, over the last parts, over all of some
	{three, one(1, 2, 9, 50), []api.Bf{one(1, 2, 9, 50), three[0], three[1], three[2]}},
	{three, one(1, 40, 50, 50), []api.Bf{three[0], three[1], three[2], one(1, 40, 50, 50)}},
	{three, one(1, 15, 19, 50), []api.Bf{three[0], one(1, 15, 19, 50), three[1], three[2]}},
	{three, one(1, 16, 18, 50), []api.Bf{three[0], one(1, 16, 18, 50), three[1], three[2]}},
	{three, one(1, 25, 29, 50), []api.Bf{three[0], three[1], one(1, 25, 29, 50), three[2]}},
	{three, one(1, 12, 22, 50), []api.Bf{one(1, 10, 11, 100), one(1, 12, 22, 50), one(1, 23, 24, 8, 153), three[2]}},
	{three, one(1, 12, 32, 50), []api.Bf{one(1, 10, 11, 100), one(1, 12, 32, 50), one(1, 33, 34, 13)}},
	{three, one(1, 10, 24, 50), []api.Bf{one(1, 10, 24, 50), three[2]}},
	{three, one(1, 20, 34, 50), []api.Bf{three[0], one(1, 20, 34, 50)}},
	{three, one(1, 20, 24, 50), []api.Bf{three[0], one(1, 20, 24, 50), three[2]}},
	{three, one(1, 15, 29, 50), []api.Bf{three[0], one(1, 15, 29, 50), three[2]}},
	{three, one(1, 14, 30, 50), []api.Bf{one(1, 10, 13, 100), one(1, 14, 30, 50), one(1, 31, 34, 11)}},
	{three, one(1, 22, 22, 50), []api.Bf{three[0], one(1, 20, 21, 8, 150), one(1, 22, 22, 50), one(1, 23, 24, 8, 153), three[2]}},
	{three, one(1, 10, 34, 50), []api.Bf{one(1, 10, 34, 50)}},
	{three, one(1, 0, 255, 50), []api.Bf{one(1, 0, 255, 50)}},
	{three, one(1, 25, 255, 50), []api.Bf{three[0], three[1], one(1, 25, 255, 50)}},
	{three, one(1, 0, 29, 50), []api.Bf{one(1, 0, 29, 50), three[2]}},
	// one that joins: with the one ahead of it, with the one behind it, with both
	{gaps, one(1, 15, 18, 3, 105), []api.Bf{one(1, 10, 18, 3, 100), gaps[1]}},
	{gaps, one(1, 16, 19, 3, 106), []api.Bf{gaps[0], one(1, 16, 24, 3, 106)}},
	{gaps, one(1, 15, 19, 3, 105), []api.Bf{one(1, 10, 24, 3, 100)}},
	{gaps, one(1, 12, 22, 3, 102), []api.Bf{one(1, 10, 24, 3, 100)}},
	{gaps, one(1, 25, 30, 3, 115), []api.Bf{gaps[0], one(1, 20, 30, 3, 110)}},
	{gaps, one(1, 5, 9, 3, 95), []api.Bf{one(1, 5, 14, 3, 95), gaps[1]}},
	{gaps, one(1, 12, 18, 3, 102), []api.Bf{one(1, 10, 18, 3, 100), gaps[1]}},
	{gaps, one(1, 16, 22, 3, 106), []api.Bf{gaps[0], one(1, 16, 24, 3, 106)}},
	// one beside that: by its last unit, by another one, by how many there are, and by a gap
	{gaps, one(1, 15, 19, 3, 104), []api.Bf{gaps[0], one(1, 15, 19, 3, 104), gaps[1]}},
	{gaps, one(1, 15, 19, 3, 106), []api.Bf{gaps[0], one(1, 15, 19, 3, 106), gaps[1]}},
	{gaps, one(1, 15, 19, 4, 105), []api.Bf{gaps[0], one(1, 15, 19, 4, 105), gaps[1]}},
	{gaps, one(1, 15, 19, 105), []api.Bf{gaps[0], one(1, 15, 19, 105), gaps[1]}},
	{gaps, one(1, 15, 19, 3, 3, 105), []api.Bf{gaps[0], one(1, 15, 19, 3, 3, 105), gaps[1]}},
	{gaps, one(1, 16, 18, 3, 106), []api.Bf{gaps[0], one(1, 16, 18, 3, 106), gaps[1]}},
	// the last unit goes no further than 65535
	{[]api.Bf{one(1, 10, 20, 3, 65525)}, one(1, 21, 21, 4, 0), []api.Bf{one(1, 10, 20, 3, 65525), one(1, 21, 21, 4, 0)}},
	{[]api.Bf{one(1, 10, 20, 65525)}, one(1, 21, 21, 65535), []api.Bf{one(1, 10, 20, 65525), one(1, 21, 21, 65535)}},
	{[]api.Bf{one(1, 10, 20, 65524)}, one(1, 21, 21, 65535), []api.Bf{one(1, 10, 21, 65524)}},
	// of another number of bytes
	{base, one(2, 10, 20, 50), []api.Bf{base[0], one(2, 10, 20, 50)}},
	{base, one(2, 21, 30, 111), []api.Bf{base[0], one(2, 21, 30, 111)}},
	{[]api.Bf{one(2, 10, 20, 100), one(4, 10, 20, 100)}, one(3, 0, 255, 100), []api.Bf{one(2, 10, 20, 100), one(3, 0, 255, 100), one(4, 10, 20, 100)}},
	{[]api.Bf{one(2, 10, 20, 100)}, one(1, 15, 15, 0), []api.Bf{one(1, 15, 15, 0), one(2, 10, 20, 100)}},
	{[]api.Bf{one(2, 256, 256, 6)}, one(1, 255, 255, 5), []api.Bf{one(1, 255, 255, 5), one(2, 256, 256, 6)}},
	// the first and the last code of all
	{[]api.Bf{one(1, 0, 255, 0)}, one(1, 0, 0, 9), []api.Bf{one(1, 0, 0, 9), one(1, 1, 255, 1)}},
	{[]api.Bf{one(1, 0, 255, 0)}, one(1, 255, 255, 9), []api.Bf{one(1, 0, 254, 0), one(1, 255, 255, 9)}},
	{[]api.Bf{one(4, 0xFFFF0000, 0xFFFFFFFF, 0)}, one(4, 0xFFFFFFFF, 0xFFFFFFFF, 9), []api.Bf{one(4, 0xFFFF0000, 0xFFFFFFFE, 0), one(4, 0xFFFFFFFF, 0xFFFFFFFF, 9)}},
	{[]api.Bf{one(4, 0, 9, 65526)}, one(4, 5, 5, 0), []api.Bf{one(4, 0, 4, 65526), one(4, 5, 5, 0), one(4, 6, 9, 65532)}},
}

// P8.4: one put behind a table, at once, and behind what comes of it.
func TestBuildPut(t *testing.T) {
	for _, x := range puts {
		checkBuild(t, slices.Concat(x.t, []api.Bf{x.b}), x.want)
		checkBuild(t, slices.Concat(x.want, []api.Bf{x.b}), x.want)
		checkBuild(t, slices.Concat(x.t, []api.Bf{x.b, x.b}), x.want)
		checkBuild(t, slices.Concat([]api.Bf{x.b}, x.t, []api.Bf{x.b}), x.want)
	}
}

// builds are lists, and what comes of them.
var builds = []struct{ l, want []api.Bf }{
	{nil, nil}, {[]api.Bf{}, nil},
	{[]api.Bf{one(1, 10, 20, 5)}, []api.Bf{one(1, 10, 20, 5)}},
	// some that are not Sane, alone and with others
	{[]api.Bf{one(1, 20, 10, 5), one(1, 0, 256, 5), {}, one(1, 1, 2, -1), one(1, 1, 1, 65536), one(1, 1, 1), one(1, 1, 1, many(65, 0)...)}, nil},
	{[]api.Bf{one(1, 1, 2, 65535)}, nil}, {[]api.Bf{one(4, 0, 0xFFFFFFFF, 7)}, nil},
	{[]api.Bf{one(1, 10, 20, 5), one(1, 12, 13, 65535)}, []api.Bf{one(1, 10, 20, 5)}},
	{[]api.Bf{one(1, 12, 13, 65535), one(1, 10, 20, 5), one(1, 12, 13), {}}, []api.Bf{one(1, 10, 20, 5)}},
	// the same one, some times, and another one between
	{[]api.Bf{one(1, 10, 20, 5), one(1, 10, 20, 5), one(1, 10, 20, 5)}, []api.Bf{one(1, 10, 20, 5)}},
	{[]api.Bf{one(1, 10, 20, 5), one(1, 0, 30, 99), one(1, 10, 20, 5)}, []api.Bf{one(1, 0, 9, 99), one(1, 10, 20, 5), one(1, 21, 30, 120)}},
	// each code on its own, put together
	{[]api.Bf{one(1, 3, 3, 13), one(1, 1, 1, 11), one(1, 2, 2, 12), one(1, 0, 0, 10)}, []api.Bf{one(1, 0, 3, 10)}},
	{[]api.Bf{one(1, 3, 3, 7, 13), one(1, 1, 1, 7, 11), one(1, 2, 2, 7, 12), one(1, 0, 0, 7, 10)}, []api.Bf{one(1, 0, 3, 7, 10)}},
	{[]api.Bf{one(1, 3, 3, 10), one(1, 1, 1, 10), one(1, 2, 2, 10), one(1, 0, 0, 10)}, []api.Bf{one(1, 0, 0, 10), one(1, 1, 1, 10), one(1, 2, 2, 10), one(1, 3, 3, 10)}},
	// ones in one another, from the widest on, and from the narrowest on
	{[]api.Bf{one(1, 0, 9, 10), one(1, 1, 8, 30), one(1, 2, 7, 6, 50), one(1, 4, 4, 70)}, []api.Bf{one(1, 0, 0, 10), one(1, 1, 1, 30), one(1, 2, 3, 6, 50), one(1, 4, 4, 70), one(1, 5, 7, 6, 53), one(1, 8, 8, 37), one(1, 9, 9, 19)}},
	{[]api.Bf{one(1, 4, 4, 70), one(1, 2, 7, 6, 50), one(1, 1, 8, 30), one(1, 0, 9, 10)}, []api.Bf{one(1, 0, 9, 10)}},
	// two cut one into three
	{[]api.Bf{one(1, 0, 20, 4, 0), one(1, 5, 5, 99), one(1, 10, 11, 88)}, []api.Bf{one(1, 0, 4, 4, 0), one(1, 5, 5, 99), one(1, 6, 9, 4, 6), one(1, 10, 11, 88), one(1, 12, 20, 4, 12)}},
	// what joins only when what was between is overridden
	{[]api.Bf{one(1, 0, 9, 0), one(1, 5, 5, 99), one(1, 5, 5, 5)}, []api.Bf{one(1, 0, 9, 0)}},
	{[]api.Bf{one(1, 0, 9, 4, 0), one(1, 5, 5, 4), one(1, 5, 5, 4, 5)}, []api.Bf{one(1, 0, 9, 4, 0)}},
	// the first and the last of 64 units
	{[]api.Bf{one(1, 0, 9, many(64, 8)...), one(1, 5, 5, with(many(64, 8), 63, 13)...)}, []api.Bf{one(1, 0, 9, many(64, 8)...)}},
	{[]api.Bf{one(1, 0, 9, many(64, 8)...), one(1, 5, 9, with(many(64, 8), 0, 13)...)}, []api.Bf{one(1, 0, 4, many(64, 8)...), one(1, 5, 9, with(many(64, 8), 0, 13)...)}},
	// the chapter's example
	{[]api.Bf{one(2, 0xF0, 0x110, 0x41)}, []api.Bf{one(2, 0xF0, 0x110, 0x41)}},
}

// P8.4
func TestBuild(t *testing.T) {
	for _, x := range builds {
		checkBuild(t, x.l, x.want)
	}
}

// P8.4: a table of ones that do not meet is the same in whatever order they come.
func TestBuildOrder(t *testing.T) {
	tab := []api.Bf{one(1, 10, 14, 100), one(1, 20, 24, 3, 150), one(1, 30, 34, 10), one(2, 0, 9, 7), one(4, 0, 9, 7)}
	rnd := rand.New(rand.NewSource(84))
	for range 200 {
		l := slices.Clone(tab)
		rnd.Shuffle(len(l), func(i, j int) { l[i], l[j] = l[j], l[i] })
		checkBuild(t, l, tab)
	}
}

// P8.4: each of two at the edges behind the other one, and round one that is not Sane.
func TestBuildTwo(t *testing.T) {
	for _, a := range sane {
		for _, b := range sane {
			l := []api.Bf{a, b}
			want := plainBuild(l)
			checkBuild(t, l, want)
			checkBuild(t, []api.Bf{a, one(1, 9, 5, 3), b}, want)
		}
	}
}

// P8.4: lists of any kind: at once, with the first part of them built ahead, and one after the other.
func TestBuildSome(t *testing.T) {
	rnd := rand.New(rand.NewSource(85))
	for range 10000 {
		l := someList(rnd)
		want := plainBuild(l)
		if !plainCanon(want) {
			t.Fatalf("the model's own table %v", want)
		}
		checkBuild(t, l, want)
		cut := rnd.Intn(len(l) + 1)
		checkBuild(t, slices.Concat(Build(l[:cut]), l[cut:]), want)
	}
	for range 1000 {
		l := someList(rnd)
		var tab []api.Bf
		for _, b := range l {
			tab = Build(slices.Concat(tab, []api.Bf{b}))
		}
		if want := plainBuild(l); !equalAll(tab, want) {
			t.Fatalf("Build of each of %v, one after the other: %v, want %v", l, tab, want)
		}
	}
}

// P8.4
func TestFind(t *testing.T) {
	tab := []api.Bf{one(1, 10, 20, 3, 65), one(1, 21, 21, 99), one(2, 0, 9, 1), one(2, 300, 300, 50), one(4, 0xFFFFFFFE, 0xFFFFFFFF, 0, 0)}
	for _, x := range []struct {
		c    api.Code
		want []int
	}{
		{code(1, 10), []int{3, 65}}, {code(1, 15), []int{3, 70}}, {code(1, 20), []int{3, 75}}, {code(1, 21), []int{99}}, {code(1, 9), nil}, {code(1, 22), nil}, {code(1, 0), nil}, {code(1, 255), nil},
		{code(2, 0), []int{1}}, {code(2, 9), []int{10}}, {code(2, 10), nil}, {code(2, 21), nil}, {code(2, 299), nil}, {code(2, 300), []int{50}}, {code(2, 301), nil}, {code(2, 65535), nil},
		{code(4, 0xFFFFFFFD), nil}, {code(4, 0xFFFFFFFE), []int{0, 0}}, {code(4, 0xFFFFFFFF), []int{0, 1}}, {code(4, 0x100000000), nil}, {code(4, 0), nil},
		{code(3, 0), nil}, {code(3, 300), nil}, {code(0, 0), nil}, {api.Code{}, nil}, {code(-1, 15), nil}, {code(5, 15), nil}, {code(1, 266), nil}, {code(1, -1), nil}, {code(1, math.MinInt), nil}, {code(1, math.MaxInt), nil}, {code(math.MinInt, math.MinInt), nil}, {code(math.MaxInt, math.MaxInt), nil},
	} {
		checkFind(t, tab, x.c, x.want, x.want != nil)
		checkFind(t, nil, x.c, nil, false)
	}
}

// P8.4: what is no table tells nothing, even of codes that one of it alone tells of.
func TestFindNoTable(t *testing.T) {
	for _, x := range canons {
		for _, c := range slices.Concat(edges(x.t), []api.Code{{}, code(1, 0), code(5, 0)}) {
			var to []int
			ok := false
			if x.want {
				to, ok = plainLast(x.t, c)
			}
			checkFind(t, x.t, c, to, ok)
		}
	}
}

// P8.4: what Find of a Build tells is what Last tells of the list: all codes of one byte, and all numbers at the edges.
func TestFindAll(t *testing.T) {
	check := func(l []api.Bf, c api.Code) {
		want, ok := Last(l, c)
		if to, is := plainLast(l, c); is != ok || !slices.Equal(to, want) {
			t.Fatalf("Last(%v, %v) = %v, %v, want %v, %v", l, c, want, ok, to, is)
		}
		checkFind(t, Build(l), c, want, ok)
	}
	for _, x := range puts {
		l := slices.Concat(x.t, []api.Bf{x.b})
		for v := -1; v <= 256; v++ {
			check(l, code(1, v))
		}
		for _, n := range oddNs {
			for _, v := range oddVs {
				check(l, code(n, v))
			}
		}
	}
}

// P8.6: each code goes where the last one led: what is behind overrides all of its codes, and nothing else.
func TestOverrides(t *testing.T) {
	rnd := rand.New(rand.NewSource(86))
	for range 1500 {
		tab := Build(someList(rnd))
		b := someBf(rnd, 1+rnd.Intn(2), 40)
		if rnd.Intn(8) == 0 {
			b = wrong[rnd.Intn(len(wrong))]
		}
		more := Build(slices.Concat(tab, []api.Bf{b}))
		for v := -1; v <= 300; v++ {
			for _, c := range []api.Code{code(1, v), code(2, v), code(2, 0xFFFF-v), code(3, v)} {
				want, ok := Find(tab, c)
				if u, is := plainTo(b, c); is {
					want, ok = u, true
				}
				got, is := Find(more, c)
				checkTold(t, "Find", more, c, got, is, want, ok)
			}
		}
	}
}

// What is answered is new: lists and units that were handed in may be changed behind the call, and one list of an answer without another one.
func TestIsNew(t *testing.T) {
	l := []api.Bf{one(2, 10, 300, 3, 65), one(2, 15, 20, 9, 8), one(2, 290, 310, 7)}
	tab := Build(l)
	want := plainBuild(l)
	rows := Rows(tab)
	u, _ := To(l[1], code(2, 15))
	w, _ := Last(l, code(2, 15))
	spoil(l)
	if !equalAll(tab, want) || !slices.Equal(u, []int{9, 8}) || !slices.Equal(w, u) {
		t.Error("Build, To or Last shares what it was given:", tab, u, w)
	}
	u, _ = Find(tab, code(2, 10))
	for i := range tab {
		tab[i].To[0]++
		if want[i].To[0]++; !equalAll(tab, want) {
			t.Fatal("two of a table share their units:", tab)
		}
	}
	was := plainRows(plainBuild([]api.Bf{one(2, 10, 300, 3, 65), one(2, 15, 20, 9, 8), one(2, 290, 310, 7)}))
	if !slices.Equal(u, []int{3, 65}) || !equalAll(rows, was) {
		t.Error("Find or Rows shares what it was given:", u, rows)
	}
	for i := range rows {
		rows[i].To[0]++
		if was[i].To[0]++; !equalAll(rows, was) {
			t.Fatal("two rows share their units:", rows)
		}
	}
}

// spoil changes all of l.
func spoil(l []api.Bf) {
	for i := range l {
		clear(l[i].To)
		l[i] = api.Bf{}
	}
}

// P1: long lists, of ones apart, in one another, and over one another, in order and back.
func TestLong(t *testing.T) {
	const count = 1 << 15
	var apart, within, over []api.Bf
	for v := range count {
		apart = append(apart, one(3, v*2, v*2, 65535-v, v))
		within = append(within, one(4, v, 2*count-2-v, 65535, 0))
		over = append(over, one(4, v, v+count/2, 65535-v, 7))
	}
	back := slices.Clone(apart)
	slices.Reverse(back)
	for _, l := range [][]api.Bf{apart, back, slices.Concat(apart, back, apart)} {
		if !equalAll(Build(l), apart) {
			t.Error("a long list of ones apart")
		}
	}
	if !Canon(apart) || Canon(back) || !equalAll(Rows(apart), apart) {
		t.Error("a long table")
	}
	if to, ok := Find(apart, code(3, 2*count-2)); !ok || to[1] != count-1 {
		t.Error("the last one of a long table:", to, ok)
	}
	if to, ok := Last(apart, code(3, 0)); !ok || to[0] != 65535 {
		t.Error("the first one of a long list:", to, ok)
	}
	if got := Build(within); len(got) != 2*count-1 {
		t.Error("a long list of ones in one another:", len(got))
	}
	slices.Reverse(within)
	if got := Build(within); len(got) != 1 || !equal(got[0], within[count-1]) {
		t.Error("a long list of ones over one another:", len(got))
	}
	if got := Build(over); len(got) != count || !equal(got[count-1], over[count-1]) || !equal(got[5], one(4, 5, 5, 65530, 7)) {
		t.Error("a long list of ones that meet:", len(got))
	}
}

// P1: one more and one more behind a long table.
func TestLongPut(t *testing.T) {
	var tab []api.Bf
	for v := range 2000 {
		at := v * 7919 % 65536
		tab = Build(append(tab, one(2, at, at, v, v)))
	}
	if len(tab) != 2000 || !Canon(tab) {
		t.Error("a long table of ones that are put:", len(tab))
	}
}

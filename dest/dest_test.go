package dest

import (
	"math"
	"math/rand"
	"slices"
	"testing"

	"hornbook/api"
)

// P8.1
func TestSane(t *testing.T) {
	for _, b := range sane {
		checkSane(t, b, true)
	}
	for _, b := range wrong {
		checkSane(t, b, false)
	}
	if Sane(api.Bf{N: 1}) || Sane(api.Bf{N: 1, To: []int{}}) || !Sane(api.Bf{N: 1, To: []int{0}}) {
		t.Error("Sane of no units, and of one")
	}
}

// P8.1: how many bytes.
func TestSaneN(t *testing.T) {
	for _, n := range oddNs {
		checkSane(t, one(n, 0, 0, 0), n >= 1 && n <= 4)
		checkSane(t, one(n, 5, 9, 7, 65531), n >= 1 && n <= 4)
	}
}

// P8.1: the bounds of each number of bytes.
func TestSaneCodes(t *testing.T) {
	for n := 1; n <= 4; n++ {
		top := greatest[n]
		for _, x := range []struct {
			lo, hi int
			want   bool
		}{
			{0, 0, true}, {1, 1, true}, {top, top, true}, {top - 1, top, true}, {top - 9, top, true}, {0, 9, true},
			{1, 0, false}, {top, top - 1, false}, {top, 0, false}, {top, top + 1, false}, {top + 1, top + 1, false}, {top + 1, top, false}, {top + 1, top + 2, false},
			{-1, 0, false}, {-1, -1, false}, {0, -1, false}, {-2, -1, false}, {-1, top, false},
		} {
			checkSane(t, one(n, x.lo, x.hi, 7), x.want)
			checkSane(t, one(n, x.lo, x.hi, 65535, 7), x.want)
		}
	}
}

// P8.1: how many units.
func TestSaneHowMany(t *testing.T) {
	for n := range 200 {
		checkSane(t, one(1, 5, 5, many(n, 7)...), n >= 1 && n <= 64)
		checkSane(t, one(4, 5, 9, many(n, 65531)...), n >= 1 && n <= 64)
	}
}

// P8.1: each unit, of as many as may be: the first one, the last one, and all between.
func TestSaneUnits(t *testing.T) {
	for _, n := range []int{1, 2, 3, 63, 64} {
		for at := range n {
			for _, u := range []int{math.MinInt, -65536, -1, 0, 1, 65535, 65536, 65537, 1 << 32, math.MaxInt} {
				checkSane(t, one(1, 5, 5, with(many(n, 7), at, u)...), u >= 0 && u <= 65535)
			}
		}
	}
}

// P8.1: the last unit, with Hi - Lo more, at the greatest unit and at one above it; what the others are is nothing to it.
func TestSaneLast(t *testing.T) {
	for n := 1; n <= 4; n++ {
		for _, lo := range []int{0, 7, greatest[n] - 255} {
			for _, more := range []int{0, 1, 2, 200, 255} {
				if lo+more > greatest[n] {
					continue
				}
				for _, u := range []int{-65536, -1, 0, 1, 65535 - more - 1, 65535 - more, 65535 - more + 1, 65534, 65535, 65536, 65537} {
					want := u >= 0 && u+more <= 65535
					checkSane(t, one(n, lo, lo+more, u), want)
					checkSane(t, one(n, lo, lo+more, 65535, u), want)
					checkSane(t, one(n, lo, lo+more, with(many(64, 65535), 63, u)...), want)
				}
			}
		}
	}
}

// P8.1: all numbers at the edges.
func TestSaneOdd(t *testing.T) {
	for _, n := range oddNs {
		for _, lo := range oddVs {
			for _, hi := range oddVs {
				for _, to := range oddTos {
					b := one(n, lo, hi, to...)
					checkSane(t, b, plainSane(b))
				}
			}
		}
	}
}

// P8.1
func TestTo(t *testing.T) {
	for _, x := range []struct {
		c    api.Code
		last int
		ok   bool
	}{
		{code(1, 10), 65, true}, {code(1, 11), 66, true}, {code(1, 15), 70, true}, {code(1, 19), 74, true}, {code(1, 20), 75, true},
		{code(1, 9), 0, false}, {code(1, 21), 0, false}, {code(1, 0), 0, false}, {code(1, 255), 0, false},
		{code(2, 15), 0, false}, {code(3, 15), 0, false}, {code(4, 15), 0, false}, {code(2, 0x0F0F), 0, false},
		{code(0, 15), 0, false}, {code(-1, 15), 0, false}, {code(5, 15), 0, false}, {code(1<<32+1, 15), 0, false}, {api.Code{}, 0, false},
		{code(1, 15+256), 0, false}, {code(1, 15-256), 0, false}, {code(1, 15+1<<32), 0, false}, {code(1, -1), 0, false}, {code(1, math.MinInt), 0, false}, {code(1, math.MaxInt), 0, false},
	} {
		for _, ahead := range [][]int{nil, {3}, {65, 65}, {65535, 0, 65535}, many(63, 9)} {
			b := one(1, 10, 20, slices.Concat(ahead, []int{65})...)
			var want []int
			if x.ok {
				want = slices.Concat(ahead, []int{x.last})
			}
			checkTo(t, b, x.c, want, x.ok)
		}
	}
}

// P8.1: at Lo, at Hi, and one beyond each, where these may be codes, and where not; with other numbers of bytes.
func TestToEnds(t *testing.T) {
	for _, b := range sane {
		end := len(b.To) - 1
		for n := -1; n <= 6; n++ {
			checkTo(t, b, code(n, b.Lo-1), nil, false)
			checkTo(t, b, code(n, b.Hi+1), nil, false)
			if n != b.N {
				checkTo(t, b, code(n, b.Lo), nil, false)
				checkTo(t, b, code(n, b.Hi), nil, false)
				continue
			}
			checkTo(t, b, code(n, b.Lo), b.To, true)
			checkTo(t, b, code(n, b.Hi), with(b.To, end, b.To[end]+b.Hi-b.Lo), true)
		}
	}
}

// P8.1: all numbers at the edges.
func TestToOdd(t *testing.T) {
	var codes []api.Code
	for _, n := range oddNs {
		for _, v := range oddVs {
			codes = append(codes, code(n, v))
		}
	}
	for _, b := range slices.Concat(sane, wrong) {
		for _, c := range slices.Concat(codes, edges([]api.Bf{b})) {
			to, ok := plainTo(b, c)
			checkTo(t, b, c, to, ok)
		}
	}
}

// P8.1 to P8.5: what all calls tell of one that is not Sane: nothing, alone and beside others.
func TestWrong(t *testing.T) {
	tab := []api.Bf{one(1, 5, 9, 3, 65), one(2, 0, 9, 3)}
	for _, b := range wrong {
		for _, c := range []api.Code{code(b.N, b.Lo), code(b.N, b.Hi), code(1, 5), code(1, 0), code(2, 0), code(4, 7), {}} {
			checkTo(t, b, c, nil, false)
			checkLast(t, []api.Bf{b}, c, nil, false)
			to, ok := plainLast(tab, c)
			for _, l := range [][]api.Bf{{tab[0], tab[1], b}, {b, tab[0], tab[1]}, {tab[0], b, tab[1]}} {
				checkLast(t, l, c, to, ok)
				checkFind(t, l, c, nil, false)
			}
			checkFind(t, []api.Bf{b}, c, nil, false)
		}
		for _, l := range [][]api.Bf{{b}, {b, b}, {tab[0], tab[1], b}, {b, tab[0], tab[1]}, {tab[0], b, tab[1]}} {
			checkCanon(t, l, false)
			checkRows(t, l, nil)
		}
		checkBuild(t, []api.Bf{b}, nil)
		checkBuild(t, []api.Bf{b, b, b}, nil)
		checkBuild(t, []api.Bf{b, tab[1], b, tab[0], b}, tab)
		checkBuild(t, []api.Bf{tab[0], tab[1], b}, tab)
	}
}

// P1: nothing at all.
func TestNil(t *testing.T) {
	for _, l := range [][]api.Bf{nil, {}} {
		for _, c := range []api.Code{{}, code(1, 0), code(4, 0xFFFFFFFF), code(math.MinInt, math.MinInt), code(math.MaxInt, math.MaxInt)} {
			if to, ok := Last(l, c); len(to) != 0 || ok {
				t.Error("Last of nothing:", to, ok)
			}
			if to, ok := Find(l, c); len(to) != 0 || ok {
				t.Error("Find of nothing:", to, ok)
			}
			if to, ok := To(api.Bf{}, c); len(to) != 0 || ok {
				t.Error("To of nothing:", to, ok)
			}
		}
		if !Canon(l) || len(Build(l)) != 0 || len(Rows(l)) != 0 {
			t.Error("a table of nothing")
		}
	}
}

// P8.2
func TestLast(t *testing.T) {
	a, b, bad := one(1, 10, 20, 3, 65), one(1, 15, 25, 99), one(1, 25, 10, 7)
	for _, x := range []struct {
		l    []api.Bf
		c    api.Code
		want []int
	}{
		{nil, code(1, 15), nil}, {[]api.Bf{}, code(1, 15), nil}, {nil, api.Code{}, nil},
		{[]api.Bf{a}, code(1, 10), []int{3, 65}}, {[]api.Bf{a}, code(1, 20), []int{3, 75}}, {[]api.Bf{a}, code(1, 9), nil}, {[]api.Bf{a}, code(1, 21), nil}, {[]api.Bf{a}, code(2, 15), nil},
		// the first one alone, both, the last one alone, none
		{[]api.Bf{a, b}, code(1, 14), []int{3, 69}}, {[]api.Bf{a, b}, code(1, 15), []int{99}}, {[]api.Bf{a, b}, code(1, 20), []int{104}}, {[]api.Bf{a, b}, code(1, 21), []int{105}}, {[]api.Bf{a, b}, code(1, 26), nil}, {[]api.Bf{a, b}, code(1, 9), nil},
		{[]api.Bf{b, a}, code(1, 14), []int{3, 69}}, {[]api.Bf{b, a}, code(1, 15), []int{3, 70}}, {[]api.Bf{b, a}, code(1, 20), []int{3, 75}}, {[]api.Bf{b, a}, code(1, 21), []int{105}},
		// some that are not Sane
		{[]api.Bf{bad}, code(1, 15), nil}, {[]api.Bf{a, bad}, code(1, 15), []int{3, 70}}, {[]api.Bf{bad, a}, code(1, 15), []int{3, 70}}, {[]api.Bf{a, bad, b, bad}, code(1, 15), []int{99}}, {[]api.Bf{a, {}, {}}, code(1, 12), []int{3, 67}},
		{[]api.Bf{a, one(1, 0, 256, 7), one(1, -1, 30, 7), one(1, 10, 20, -1), one(1, 10, 20, 65536), one(1, 10, 20), one(1, 10, 20, many(65, 1)...), one(1, 10, 20, 65526), one(1, 10, 20, 65536, 1)}, code(1, 12), []int{3, 67}},
		// one that goes to 0
		{[]api.Bf{a, one(1, 15, 15, 0)}, code(1, 15), []int{0}}, {[]api.Bf{one(1, 15, 15, 0, 0), one(1, 16, 16, 4)}, code(1, 15), []int{0, 0}},
		// another number of bytes
		{[]api.Bf{a, one(2, 10, 20, 50)}, code(1, 15), []int{3, 70}}, {[]api.Bf{a, one(2, 10, 20, 50)}, code(2, 15), []int{55}}, {[]api.Bf{a, one(2, 10, 20, 50)}, code(3, 15), nil},
	} {
		checkLast(t, x.l, x.c, x.want, x.want != nil)
	}
}

// P8.2: the last one of three at each place, and of many.
func TestLastPlaces(t *testing.T) {
	for at := range 3 {
		l := []api.Bf{one(1, 0, 4, 1), one(1, 0, 4, 2), one(1, 0, 4, 3)}
		l[at] = one(1, 0, 9, 8, 40)
		checkLast(t, l, code(1, 9), []int{8, 49}, true)
		checkLast(t, l, code(1, 0), [][]int{{3}, {3}, {8, 40}}[at], true)
	}
	var l []api.Bf
	for k := range 1000 {
		l = append(l, one(1, 0, 255, k, k))
		checkLast(t, l, code(1, 7), []int{k, k + 7}, true)
	}
}

// canons are lists, and whether they are tables.
var canons = []struct {
	t    []api.Bf
	want bool
}{
	{nil, true}, {[]api.Bf{}, true},
	{[]api.Bf{one(1, 10, 20, 5)}, true}, {[]api.Bf{one(1, 10, 20, 3, 5)}, true}, {[]api.Bf{one(4, 0xFFFFFFFF, 0xFFFFFFFF, 65535)}, true}, {[]api.Bf{one(1, 0, 255, many(64, 65280)...)}, true},
	// one that is not Sane
	{[]api.Bf{{}}, false}, {[]api.Bf{one(1, 10, 9, 5)}, false}, {[]api.Bf{one(1, 0, 1, 65535)}, false}, {[]api.Bf{one(1, 0, 1)}, false}, {[]api.Bf{one(1, 0, 1, many(65, 0)...)}, false},
	{[]api.Bf{one(1, 10, 20, 5), one(1, 30, 29, 5)}, false}, {[]api.Bf{one(0, 0, 0, 0), one(1, 10, 20, 5)}, false}, {[]api.Bf{one(1, 10, 20, 5), one(5, 0, 0, 0)}, false}, {[]api.Bf{one(1, 10, 20, 5), one(1, 30, 31, 65535)}, false},
	{[]api.Bf{one(1, 10, 20, 5), one(1, 22, 22, -1), one(1, 30, 30, 0)}, false}, {[]api.Bf{one(1, 10, 20, 5), one(1, 22, 22), one(1, 30, 30, 0)}, false},
	// two apart, and side by side
	{[]api.Bf{one(1, 10, 20, 5), one(1, 22, 30, 5)}, true}, {[]api.Bf{one(1, 10, 20, 5), one(1, 22, 30, 17)}, true}, {[]api.Bf{one(1, 10, 20, 5), one(1, 22, 30, 16)}, true}, {[]api.Bf{one(1, 10, 20, 5), one(1, 21, 30, 99)}, true}, {[]api.Bf{one(1, 10, 20, 5), one(1, 21, 30, 5)}, true},
	// two that meet
	{[]api.Bf{one(1, 10, 20, 5), one(1, 20, 30, 99)}, false}, {[]api.Bf{one(1, 10, 20, 5), one(1, 20, 20, 15)}, false}, {[]api.Bf{one(1, 10, 20, 5), one(1, 20, 20, 9, 9)}, false}, {[]api.Bf{one(1, 10, 20, 5), one(1, 10, 20, 5)}, false}, {[]api.Bf{one(1, 10, 20, 5), one(1, 15, 15, 99)}, false}, {[]api.Bf{one(1, 10, 20, 5), one(1, 10, 10, 99)}, false}, {[]api.Bf{one(1, 15, 15, 5), one(1, 10, 20, 99)}, false}, {[]api.Bf{one(1, 10, 20, 5), one(1, 5, 10, 99)}, false},
	// two in the wrong order, of the same N and of others
	{[]api.Bf{one(1, 22, 30, 99), one(1, 10, 20, 5)}, false}, {[]api.Bf{one(1, 21, 30, 99), one(1, 10, 20, 5)}, false}, {[]api.Bf{one(1, 21, 30, 16), one(1, 10, 20, 5)}, false}, {[]api.Bf{one(2, 10, 20, 5), one(1, 22, 30, 99)}, false}, {[]api.Bf{one(2, 0, 0, 5), one(1, 255, 255, 99)}, false}, {[]api.Bf{one(4, 10, 20, 5), one(3, 10, 20, 5)}, false},
	{[]api.Bf{one(1, 0, 1, 7), one(1, 9, 9, 7), one(1, 5, 6, 7)}, false},
	// of other N, whatever Lo and Hi are
	{[]api.Bf{one(1, 10, 20, 5), one(2, 10, 20, 5)}, true}, {[]api.Bf{one(1, 255, 255, 5), one(2, 0, 0, 5)}, true}, {[]api.Bf{one(1, 255, 255, 5), one(2, 256, 256, 6)}, true}, {[]api.Bf{one(1, 10, 20, 3, 5), one(2, 21, 30, 3, 16)}, true}, {[]api.Bf{one(1, 10, 20, 5), one(4, 21, 30, 16)}, true}, {[]api.Bf{one(2, 0, 65535, 0), one(3, 0, 65535, 0)}, true}, {[]api.Bf{one(1, 7, 7, 0), one(2, 6, 6, 0), one(3, 5, 5, 0), one(4, 4, 4, 0)}, true},
	// two that could be one, and the last unit one beside
	{[]api.Bf{one(1, 10, 20, 5), one(1, 21, 30, 16)}, false}, {[]api.Bf{one(1, 10, 20, 5), one(1, 21, 30, 15)}, true}, {[]api.Bf{one(1, 10, 20, 5), one(1, 21, 30, 17)}, true}, {[]api.Bf{one(1, 20, 20, 5), one(1, 21, 21, 6)}, false}, {[]api.Bf{one(4, 0xFFFFFFFE, 0xFFFFFFFE, 65534), one(4, 0xFFFFFFFF, 0xFFFFFFFF, 65535)}, false}, {[]api.Bf{one(2, 0, 32767, 0), one(2, 32768, 65535, 32768)}, false},
	{[]api.Bf{one(1, 10, 20, 3, 5), one(1, 21, 30, 3, 16)}, false}, {[]api.Bf{one(1, 10, 20, 3, 5), one(1, 21, 30, 3, 15)}, true}, {[]api.Bf{one(1, 10, 20, 3, 5), one(1, 21, 30, 3, 17)}, true}, {[]api.Bf{one(1, 10, 20, 3, 5), one(1, 21, 30, 14, 5)}, true}, {[]api.Bf{one(1, 10, 20, many(64, 5)...), one(1, 21, 30, with(many(64, 5), 63, 16)...)}, false},
	// one unit ahead of the last one is another one: the first, the midst, the one just ahead
	{[]api.Bf{one(1, 10, 20, 3, 5), one(1, 21, 30, 4, 16)}, true}, {[]api.Bf{one(1, 10, 20, 3, 5), one(1, 21, 30, 2, 16)}, true}, {[]api.Bf{one(1, 10, 20, 1, 2, 3, 5), one(1, 21, 30, 9, 2, 3, 16)}, true}, {[]api.Bf{one(1, 10, 20, 1, 2, 3, 5), one(1, 21, 30, 1, 9, 3, 16)}, true}, {[]api.Bf{one(1, 10, 20, 1, 2, 3, 5), one(1, 21, 30, 1, 2, 9, 16)}, true}, {[]api.Bf{one(1, 10, 20, 1, 2, 3, 5), one(1, 21, 30, 1, 2, 3, 16)}, false},
	// how many units is another number
	{[]api.Bf{one(1, 10, 20, 5), one(1, 21, 30, 16, 16)}, true}, {[]api.Bf{one(1, 10, 20, 5), one(1, 21, 30, 5, 16)}, true}, {[]api.Bf{one(1, 10, 20, 5), one(1, 21, 30, 0, 16)}, true}, {[]api.Bf{one(1, 10, 20, 5), one(1, 21, 30, 16, 0)}, true}, {[]api.Bf{one(1, 10, 20, 5, 5), one(1, 21, 30, 16)}, true}, {[]api.Bf{one(1, 10, 20, 5, 5), one(1, 21, 30, 5, 5, 16)}, true}, {[]api.Bf{one(1, 10, 20, 16, 5), one(1, 21, 30, 16)}, true}, {[]api.Bf{one(1, 10, 20, many(63, 5)...), one(1, 21, 30, with(many(64, 5), 63, 16)...)}, true},
	// the last unit would be above 65535: nothing is told of the unit ahead, nor of 0
	{[]api.Bf{one(1, 10, 20, 65525), one(1, 21, 21, 0)}, true}, {[]api.Bf{one(1, 10, 20, 65525), one(1, 21, 21, 65535)}, true}, {[]api.Bf{one(1, 10, 20, 65524), one(1, 21, 21, 65535)}, false}, {[]api.Bf{one(1, 10, 20, 65525), one(1, 21, 21, 65536)}, false}, {[]api.Bf{one(1, 10, 20, 3, 65525), one(1, 21, 30, 4, 0)}, true}, {[]api.Bf{one(1, 10, 20, 3, 65525), one(1, 21, 30, 3, 0)}, true}, {[]api.Bf{one(1, 20, 20, 65535), one(1, 21, 21, 1, 0)}, true},
	// the last two of some, and the first two
	{[]api.Bf{one(1, 0, 0, 5), one(1, 5, 9, 7), one(1, 10, 10, 12)}, false}, {[]api.Bf{one(1, 0, 0, 5), one(1, 5, 9, 7), one(1, 10, 10, 50)}, true}, {[]api.Bf{one(1, 0, 0, 5), one(1, 1, 1, 6), one(1, 10, 10, 50)}, false}, {[]api.Bf{one(1, 0, 0, 5), one(1, 1, 1, 5), one(1, 10, 10, 50)}, true},
}

// P8.3
func TestCanon(t *testing.T) {
	for _, x := range canons {
		checkCanon(t, x.t, x.want)
	}
}

// P8.3: each two of ones at the edges.
func TestCanonTwo(t *testing.T) {
	all := slices.Concat(sane, wrong)
	for _, a := range all {
		for _, b := range all {
			l := []api.Bf{a, b}
			checkCanon(t, l, plainCanon(l))
		}
	}
}

// P8.3: two side by side, with all numbers round those that they would have to go to.
func TestCanonBeside(t *testing.T) {
	for n := 1; n <= 4; n++ {
		for _, lo := range []int{0, 7, greatest[n] - 9} {
			for u := 95; u <= 110; u++ {
				for gap := -1; gap <= 1; gap++ {
					apart := gap > 0 || gap == 0 && u != 105
					checkCanon(t, []api.Bf{one(n, lo, lo+4, 100), one(n, lo+5+gap, lo+8, u)}, apart)
					checkCanon(t, []api.Bf{one(n, lo, lo+4, 100, 100), one(n, lo+5+gap, lo+8, 100, u)}, apart)
					checkCanon(t, []api.Bf{one(n, lo, lo+4, 100, 100), one(n, lo+5+gap, lo+8, u, 105)}, gap > 0 || gap == 0 && u != 100)
				}
			}
		}
	}
}

// P8.3: lists of any kind, most of which are no tables, and tables in which one number is another one.
func TestCanonSome(t *testing.T) {
	rnd := rand.New(rand.NewSource(83))
	for range 20000 {
		l := someList(rnd)
		checkCanon(t, l, plainCanon(l))
		tab := Build(l)
		if len(tab) == 0 {
			continue
		}
		b := &tab[rnd.Intn(len(tab))]
		*[]*int{&b.N, &b.Lo, &b.Hi, &b.To[0], &b.To[len(b.To)-1]}[rnd.Intn(5)] += rnd.Intn(3) - 1
		checkCanon(t, tab, plainCanon(tab))
	}
}

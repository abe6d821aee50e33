package span

import (
	"cmp"
	"encoding/binary"
	"math"
	"math/rand"
	"slices"
	"testing"

	"hornbook/api"
)

// greatest is, for each number of bytes, the greatest number of so many.
var greatest = []int{0, 0xFF, 0xFFFF, 0xFFFFFF, 0xFFFFFFFF}

// oddNs are numbers of bytes that may be, and some that may not.
var oddNs = []int{math.MinInt, -1 << 32, -2, -1, 0, 1, 2, 3, 4, 5, 6, 8, 1<<32 + 1, math.MaxInt}

// oddVs are numbers at the edges of what 1 to 4 bytes may be.
var oddVs = []int{
	math.MinInt, -1<<32 + 1, -256, -1, 0, 1, 0x80, 0xFE, 0xFF, 0x100, 0x8140, 0xFFFE, 0xFFFF, 0x10000, 0x10001,
	0xFFFFFE, 0xFFFFFF, 0x1000000, 0x7FFFFFFF, 0xFFFF0000, 0xFFFFFFFE, 0xFFFFFFFF, 0x100000000, math.MaxInt,
}

// oddTos are numbers at the edges of what codes go to.
var oddTos = []int{math.MinInt, -1, 0, 1, 0xFF00, 0xFF01, 0xFFFE, 0xFFFF, 0x10000, math.MaxInt}

// both are with step and without it.
var both = []bool{true, false}

func one(n, lo, hi, to int) api.Span { return api.Span{N: n, Lo: lo, Hi: hi, To: to} }

func code(n, v int) api.Code { return api.Code{N: n, V: v} }

// oddSpans are all of oddNs, oddVs and oddTos; most of them may not be.
func oddSpans() (l []api.Span) {
	for _, n := range oddNs {
		for _, lo := range oddVs {
			for _, hi := range oddVs {
				for _, to := range oddTos {
					l = append(l, one(n, lo, hi, to))
				}
			}
		}
	}
	return l
}

// oddCodes are all of oddNs and oddVs.
func oddCodes() (l []api.Code) {
	for _, n := range oddNs {
		for _, v := range oddVs {
			l = append(l, code(n, v))
		}
	}
	return l
}

func plainCode(c api.Code) bool { return c.N >= 1 && c.N <= 4 && c.V >= 0 && c.V <= greatest[c.N] }

func plainSane(s api.Span, step bool) bool {
	if !plainCode(code(s.N, s.Lo)) || !plainCode(code(s.N, s.Hi)) || s.Lo > s.Hi || s.To < 0 || s.To > 65535 {
		return false
	}
	return !step || s.Hi-s.Lo <= 65535-s.To
}

func plainTo(s api.Span, c api.Code, step bool) (int, bool) {
	if !plainSane(s, step) || !plainCode(c) || s.N != c.N || c.V < s.Lo || s.Hi < c.V {
		return 0, false
	}
	if step {
		return c.V - s.Lo + s.To, true
	}
	return s.To, true
}

func plainLast(l []api.Span, c api.Code, step bool) (to int, ok bool) {
	for _, s := range l {
		if v, is := plainTo(s, c, step); is {
			to, ok = v, true
		}
	}
	return to, ok
}

// plainOne: could b be one with a, ahead of it?
func plainOne(a, b api.Span, step bool) bool {
	end, _ := plainTo(a, code(a.N, a.Hi), step)
	if step {
		end++
	}
	return a.N == b.N && b.Lo-a.Hi == 1 && b.To == end
}

func plainCanon(t []api.Span, step bool) bool {
	for i, s := range t {
		if !plainSane(s, step) {
			return false
		}
		for _, r := range t[:i] {
			if r.N > s.N || r.N == s.N && r.Hi >= s.Lo {
				return false
			}
		}
		if i > 0 && plainOne(t[i-1], s, step) {
			return false
		}
	}
	return true
}

// plainBuild cuts the codes at all ends of all of l: between two of these cuts one span alone tells of all codes.
func plainBuild(l []api.Span, step bool) (out []api.Span) {
	var cuts []api.Code
	for _, s := range l {
		if plainSane(s, step) {
			cuts = append(cuts, code(s.N, s.Lo), code(s.N, s.Hi+1))
		}
	}
	slices.SortFunc(cuts, func(a, b api.Code) int { return cmp.Or(cmp.Compare(a.N, b.N), cmp.Compare(a.V, b.V)) })
	for i, c := range cuts {
		to, ok := plainLast(l, c, step)
		if i+1 == len(cuts) || c == cuts[i+1] || !ok {
			continue
		}
		s := one(c.N, c.V, cuts[i+1].V-1, to)
		if n := len(out); n > 0 && plainOne(out[n-1], s, step) {
			out[n-1].Hi = s.Hi
		} else {
			out = append(out, s)
		}
	}
	return out
}

// edges are the codes at the ends of all of l, and one beside each, of their own number of bytes and of others.
func edges(l []api.Span) (out []api.Code) {
	for _, s := range l {
		for _, v := range []int{s.Lo, s.Hi, s.Lo/2 + s.Hi/2} {
			for _, d := range []int{-1, 0, 1} {
				out = append(out, code(s.N, v+d))
			}
		}
		out = append(out, code(s.N+1, s.Lo), code(s.N-1, s.Hi))
	}
	return out
}

// checkBuild holds all that is promised of Build, and of Put and Find by it, against want.
func checkBuild(t *testing.T, l []api.Span, step bool, want []api.Span) {
	t.Helper()
	room := slices.Concat(l, []api.Span{{N: 77}})[:len(l)] // what stands behind the list is not to be changed either
	got := Build(room, step)
	if !slices.Equal(got, want) {
		t.Fatalf("Build(%v, %v) = %v, want %v", l, step, got, want)
	}
	if !slices.Equal(room, l) || room[:len(l)+1][len(l)] != (api.Span{N: 77}) {
		t.Fatalf("Build changed %v to %v", l, room[:len(l)+1])
	}
	if !Canon(got, step) {
		t.Fatalf("Build(%v, %v) = %v, not Canon", l, step, got)
	}
	if again := Build(got, step); !slices.Equal(again, want) {
		t.Fatalf("Build of the table %v, %v = %v", got, step, again)
	}
	for _, c := range edges(l) {
		to, ok := plainLast(l, c, step)
		checkLast(t, l, c, step, to, ok)
		checkFind(t, got, c, step, to, ok)
	}
}

func checkPut(t *testing.T, tab []api.Span, s api.Span, step bool, want []api.Span) {
	t.Helper()
	room := slices.Concat(tab, []api.Span{{N: 77}})[:len(tab)]
	if got := Put(room, s, step); !slices.Equal(got, want) {
		t.Fatalf("Put(%v, %v, %v) = %v, want %v", tab, s, step, got, want)
	}
	if !slices.Equal(room, tab) || room[:len(tab)+1][len(tab)] != (api.Span{N: 77}) {
		t.Fatalf("Put changed %v to %v", tab, room[:len(tab)+1])
	}
}

func checkSane(t *testing.T, s api.Span, step, want bool) {
	t.Helper()
	if got := Sane(s, step); got != want {
		t.Errorf("Sane(%v, %v) = %v", s, step, got)
	}
}

func checkTo(t *testing.T, s api.Span, c api.Code, step bool, want int, ok bool) {
	t.Helper()
	if got, is := To(s, c, step); got != want || is != ok {
		t.Fatalf("To(%v, %v, %v) = %d, %v, want %d, %v", s, c, step, got, is, want, ok)
	}
}

func checkLast(t *testing.T, l []api.Span, c api.Code, step bool, want int, ok bool) {
	t.Helper()
	if got, is := Last(l, c, step); got != want || is != ok {
		t.Fatalf("Last(%v, %v, %v) = %d, %v, want %d, %v", l, c, step, got, is, want, ok)
	}
}

func checkFind(t *testing.T, tab []api.Span, c api.Code, step bool, want int, ok bool) {
	t.Helper()
	if got, is := Find(tab, c, step); got != want || is != ok {
		t.Fatalf("Find(%v, %v, %v) = %d, %v, want %d, %v", tab, c, step, got, is, want, ok)
	}
}

func checkCanon(t *testing.T, tab []api.Span, step, want bool) {
	t.Helper()
	if got := Canon(tab, step); got != want {
		t.Fatalf("Canon(%v, %v) = %v", tab, step, got)
	}
}

// sane are spans that may be, with step and without it.
var sane = []api.Span{
	one(1, 0, 0, 0), one(1, 0, 0, 65535), one(1, 0, 255, 0), one(1, 255, 255, 65535), one(1, 0, 255, 65280), one(1, 5, 9, 3), one(1, 5, 5, 3),
	one(2, 0, 0, 0), one(2, 0, 65535, 0), one(2, 65535, 65535, 65535), one(2, 0x8140, 0x9FFC, 633), one(2, 1, 65535, 1),
	one(3, 0, 0, 0), one(3, 0xFFFFFF, 0xFFFFFF, 65535), one(3, 0xFF0000, 0xFFFFFF, 0), one(3, 0, 65535, 0),
	one(4, 0, 0, 0), one(4, 0xFFFFFFFF, 0xFFFFFFFF, 65535), one(4, 0xFFFF0000, 0xFFFFFFFF, 0), one(4, 0xFFFFFF00, 0xFFFFFFFF, 65280), one(4, 0x7FFFFFFF, 0x80000000, 1),
}

// steep are spans that may be without step, but not with it: their last code goes too far.
var steep = []api.Span{
	one(1, 0, 1, 65535), one(1, 0, 255, 65281), one(1, 0, 255, 65535), one(1, 254, 255, 65535), one(2, 0, 65535, 1), one(2, 0, 65535, 65535), one(2, 1, 65535, 2),
	one(3, 0, 65536, 0), one(3, 0, 0xFFFFFF, 0), one(3, 0, 0xFFFFFF, 65535), one(4, 0xFFFEFFFF, 0xFFFFFFFF, 0), one(4, 0, 0xFFFFFFFF, 0), one(4, 0, 0xFFFFFFFF, 65535), one(4, 0xFFFFFF00, 0xFFFFFFFF, 65281),
}

// wrong are spans that may not be.
var wrong = []api.Span{
	{}, one(0, 0, 0, 0), one(0, 0, 1, 5), one(0, 5, 9, 3), one(-1, 0, 0, 0), one(-1, 5, 9, 3), one(5, 0, 0, 0), one(5, 5, 9, 3), one(5, 0, 0xFFFFFFFFFF, 0),
	one(math.MinInt, 0, 0, 0), one(math.MaxInt, 0, 0, 0), one(1<<32+1, 5, 9, 3), one(-4, 5, 9, 3),
	one(1, 9, 5, 3), one(1, 6, 5, 3), one(1, 255, 0, 3), one(1, 0, 256, 3), one(1, 256, 256, 3), one(1, 255, 256, 3), one(1, -1, 9, 3), one(1, -1, -1, 3), one(1, 0, -1, 3), one(1, 256, 5, 3),
	one(1, 5, 9, -1), one(1, 5, 9, 65536), one(1, 5, 5, 65536), one(1, 5, 5, -1), one(1, 5, 9, -5), one(1, 5, 9, math.MinInt), one(1, 5, 9, math.MaxInt), one(1, 5, 5, math.MaxInt), one(1, 5, 5, math.MinInt),
	one(2, 0, 65536, 0), one(2, 65536, 65536, 0), one(2, 65535, 65536, 0), one(2, -1, 65535, 0), one(2, 0x9FFC, 0x8140, 633), one(2, 0x8141, 0x8140, 633), one(2, 0, 0, 65536),
	one(3, 0xFFFFFF, 0x1000000, 0), one(3, 0x1000000, 0x1000000, 0), one(3, -1, 0, 0), one(3, 1, 0, 0), one(3, 7, 7, -1),
	one(4, 0xFFFFFFFF, 0x100000000, 0), one(4, 0x100000000, 0x100000000, 0), one(4, -1, 0, 0), one(4, math.MinInt, math.MaxInt, 0), one(4, math.MinInt, math.MinInt, 0), one(4, math.MaxInt, math.MaxInt, 0),
	one(4, 0xFFFFFFFF, 0xFFFFFFFE, 0), one(4, 0xFFFFFFFF, 0xFFFFFFFF, 65536), one(4, math.MaxInt, math.MinInt, math.MinInt), one(4, math.MinInt, 0, math.MaxInt),
}

// P7.1
func TestSane(t *testing.T) {
	for _, s := range sane {
		checkSane(t, s, true, true)
		checkSane(t, s, false, true)
	}
	for _, s := range steep {
		checkSane(t, s, true, false)
		checkSane(t, s, false, true)
	}
	for _, s := range wrong {
		checkSane(t, s, true, false)
		checkSane(t, s, false, false)
	}
}

// P7.1: how many bytes.
func TestSaneN(t *testing.T) {
	for _, n := range oddNs {
		for _, step := range both {
			checkSane(t, one(n, 0, 0, 0), step, n >= 1 && n <= 4)
			checkSane(t, one(n, 5, 9, 65531), step, n >= 1 && n <= 4)
		}
	}
}

// P7.1: the bounds of each number of bytes.
func TestSaneCodes(t *testing.T) {
	for n := 1; n <= 4; n++ {
		top := greatest[n]
		for _, x := range []struct {
			lo, hi int
			want   bool
		}{
			{0, 0, true}, {1, 1, true}, {top, top, true}, {top - 1, top, true}, {top - 9, top, true}, {0, 9, true},
			{1, 0, false}, {top, top - 1, false}, {top, 0, false}, {top, top + 1, false}, {top + 1, top + 1, false}, {top + 1, top, false}, {top + 1, top + 2, false},
			{-1, 0, false}, {-1, -1, false}, {0, -1, false}, {-2, -1, false}, {-1, top, false},
		} {
			for _, step := range both {
				checkSane(t, one(n, x.lo, x.hi, 7), step, x.want)
			}
		}
	}
}

// P7.1: what codes go to: of one code, and of some, with the last one at the greatest number and one above it.
func TestSaneTo(t *testing.T) {
	for n := 1; n <= 4; n++ {
		for _, lo := range []int{0, 7, greatest[n] - 255} {
			for _, more := range []int{0, 1, 2, 200, 255} {
				if lo+more > greatest[n] {
					continue
				}
				for _, to := range []int{-65536, -1, 0, 1, 65535 - more - 1, 65535 - more, 65535 - more + 1, 65534, 65535, 65536, 65537} {
					s := one(n, lo, lo+more, to)
					checkSane(t, s, false, to >= 0 && to <= 65535)
					checkSane(t, s, true, to >= 0 && to+more <= 65535)
				}
			}
		}
	}
}

// P7.1: all numbers at the edges.
func TestSaneOdd(t *testing.T) {
	for _, s := range oddSpans() {
		checkSane(t, s, true, plainSane(s, true))
		checkSane(t, s, false, plainSane(s, false))
	}
}

// P7.1
func TestTo(t *testing.T) {
	s := one(1, 10, 20, 5)
	for _, x := range []struct {
		c         api.Code
		step, not int
		ok        bool
	}{
		{code(1, 10), 5, 5, true}, {code(1, 11), 6, 5, true}, {code(1, 15), 10, 5, true}, {code(1, 19), 14, 5, true}, {code(1, 20), 15, 5, true},
		{code(1, 9), 0, 0, false}, {code(1, 21), 0, 0, false}, {code(1, 0), 0, 0, false}, {code(1, 255), 0, 0, false},
		{code(2, 15), 0, 0, false}, {code(3, 15), 0, 0, false}, {code(4, 15), 0, 0, false}, {code(2, 0x0F0F), 0, 0, false},
		{code(0, 15), 0, 0, false}, {code(-1, 15), 0, 0, false}, {code(5, 15), 0, 0, false}, {code(1<<32+1, 15), 0, 0, false}, {api.Code{}, 0, 0, false},
		{code(1, 15+256), 0, 0, false}, {code(1, 15-256), 0, 0, false}, {code(1, 15+1<<32), 0, 0, false}, {code(1, -1), 0, 0, false}, {code(1, math.MinInt), 0, 0, false}, {code(1, math.MaxInt), 0, 0, false},
	} {
		checkTo(t, s, x.c, true, x.step, x.ok)
		checkTo(t, s, x.c, false, x.not, x.ok)
	}
}

// P7.1: at Lo, at Hi, and one beyond each, where these may be codes, and where not; with other numbers of bytes.
func TestToEnds(t *testing.T) {
	for _, s := range sane {
		for n := -1; n <= 6; n++ {
			is := n == s.N
			for _, step := range both {
				last := s.To
				if step {
					last += s.Hi - s.Lo
				}
				for _, x := range []struct {
					v, want int
					ok      bool
				}{{s.Lo, s.To, is}, {s.Hi, last, is}, {s.Lo - 1, 0, false}, {s.Hi + 1, 0, false}} {
					if !x.ok {
						x.want = 0
					}
					checkTo(t, s, code(n, x.v), step, x.want, x.ok)
				}
			}
		}
	}
}

// P7.1: one that may be without step alone.
func TestToSteep(t *testing.T) {
	for _, s := range steep {
		for _, v := range []int{s.Lo, s.Hi} {
			checkTo(t, s, code(s.N, v), true, 0, false)
			checkTo(t, s, code(s.N, v), false, s.To, true)
		}
		checkTo(t, s, code(s.N, s.Lo-1), false, 0, false)
		checkTo(t, s, code(s.N, s.Hi+1), false, 0, false)
	}
}

// P7.1: all numbers at the edges.
func TestToOdd(t *testing.T) {
	codes := oddCodes()
	for _, s := range slices.Concat(sane, steep, wrong) {
		for _, c := range slices.Concat(codes, edges([]api.Span{s})) {
			for _, step := range both {
				to, ok := plainTo(s, c, step)
				checkTo(t, s, c, step, to, ok)
			}
		}
	}
}

// P7.1 to P7.4: what all calls tell of one that is not Sane: nothing, alone and beside others.
func TestWrong(t *testing.T) {
	tab := []api.Span{one(1, 5, 9, 3), one(2, 0, 9, 3)}
	check := func(s api.Span, step bool) {
		for _, c := range []api.Code{code(s.N, s.Lo), code(s.N, s.Hi), code(1, 5), code(1, 0), code(2, 0), code(4, 7), {}} {
			checkTo(t, s, c, step, 0, false)
			checkLast(t, []api.Span{s}, c, step, 0, false)
			checkFind(t, []api.Span{s}, c, step, 0, false)
			checkFind(t, slices.Concat(tab, []api.Span{s}), c, step, 0, false)
			checkFind(t, slices.Concat([]api.Span{s}, tab), c, step, 0, false)
			to, ok := plainLast(tab, c, step)
			checkLast(t, slices.Concat(tab, []api.Span{s}), c, step, to, ok)
			checkLast(t, slices.Concat([]api.Span{s}, tab), c, step, to, ok)
		}
		checkCanon(t, []api.Span{s}, step, false)
		checkCanon(t, slices.Concat(tab, []api.Span{s}), step, false)
		checkCanon(t, slices.Concat([]api.Span{s}, tab), step, false)
		checkCanon(t, []api.Span{tab[0], s, tab[1]}, step, false)
		checkBuild(t, []api.Span{s}, step, nil)
		checkBuild(t, []api.Span{s, s, s}, step, nil)
		checkBuild(t, []api.Span{s, tab[1], s, tab[0], s}, step, tab)
		checkPut(t, nil, s, step, nil)
		checkPut(t, tab, s, step, tab)
		checkPut(t, []api.Span{tab[0], s}, tab[1], step, tab)
		checkPut(t, []api.Span{s}, s, step, nil)
	}
	for _, s := range wrong {
		check(s, true)
		check(s, false)
	}
	for _, s := range steep {
		check(s, true)
	}
}

// P7.2
func TestLast(t *testing.T) {
	a, b, bad := one(1, 10, 20, 5), one(1, 15, 25, 99), one(1, 25, 10, 7)
	for i, x := range []struct {
		l         []api.Span
		c         api.Code
		step, not int
		ok        bool
	}{
		{nil, code(1, 15), 0, 0, false}, {[]api.Span{}, code(1, 15), 0, 0, false}, {nil, api.Code{}, 0, 0, false},
		{[]api.Span{a}, code(1, 10), 5, 5, true}, {[]api.Span{a}, code(1, 20), 15, 5, true}, {[]api.Span{a}, code(1, 9), 0, 0, false}, {[]api.Span{a}, code(1, 21), 0, 0, false}, {[]api.Span{a}, code(2, 15), 0, 0, false},
		// the first one alone, both, the last one alone, none
		{[]api.Span{a, b}, code(1, 14), 9, 5, true}, {[]api.Span{a, b}, code(1, 15), 99, 99, true}, {[]api.Span{a, b}, code(1, 20), 104, 99, true}, {[]api.Span{a, b}, code(1, 21), 105, 99, true}, {[]api.Span{a, b}, code(1, 26), 0, 0, false}, {[]api.Span{a, b}, code(1, 9), 0, 0, false},
		{[]api.Span{b, a}, code(1, 14), 9, 5, true}, {[]api.Span{b, a}, code(1, 15), 10, 5, true}, {[]api.Span{b, a}, code(1, 20), 15, 5, true}, {[]api.Span{b, a}, code(1, 21), 105, 99, true},
		// some that are not Sane
		{[]api.Span{bad}, code(1, 15), 0, 0, false}, {[]api.Span{a, bad}, code(1, 15), 10, 5, true}, {[]api.Span{bad, a}, code(1, 15), 10, 5, true}, {[]api.Span{a, bad, b, bad}, code(1, 15), 99, 99, true}, {[]api.Span{a, {}, {}}, code(1, 12), 7, 5, true},
		{[]api.Span{a, one(1, 0, 256, 7), one(1, -1, 30, 7), one(1, 10, 20, -1), one(1, 10, 20, 65536)}, code(1, 12), 7, 5, true},
		// one that goes to 0
		{[]api.Span{a, one(1, 15, 15, 0)}, code(1, 15), 0, 0, true}, {[]api.Span{one(1, 15, 15, 0), one(1, 16, 16, 4)}, code(1, 15), 0, 0, true},
		// another number of bytes
		{[]api.Span{a, one(2, 10, 20, 50)}, code(1, 15), 10, 5, true}, {[]api.Span{a, one(2, 10, 20, 50)}, code(2, 15), 55, 50, true}, {[]api.Span{a, one(2, 10, 20, 50)}, code(3, 15), 0, 0, false},
	} {
		for _, step := range both {
			want := x.not
			if step {
				want = x.step
			}
			if got, ok := Last(x.l, x.c, step); got != want || ok != x.ok {
				t.Errorf("%d: Last(%v, %v, %v) = %d, %v", i, x.l, x.c, step, got, ok)
			}
		}
	}
	// one that is Sane without step alone
	l := []api.Span{a, one(1, 12, 13, 65535)}
	checkLast(t, l, code(1, 12), true, 7, true)
	checkLast(t, l, code(1, 12), false, 65535, true)
}

// P7.2: the last one of three at each place, and of many.
func TestLastPlaces(t *testing.T) {
	for at := range 3 {
		l := []api.Span{one(1, 0, 4, 1), one(1, 0, 4, 2), one(1, 0, 4, 3)}
		l[at] = one(1, 0, 9, 40)
		checkLast(t, l, code(1, 9), true, 49, true)
		checkLast(t, l, code(1, 9), false, 40, true)
		checkLast(t, l, code(1, 0), false, []int{3, 3, 40}[at], true)
	}
	var l []api.Span
	for k := range 1000 {
		l = append(l, one(1, 0, 255, k))
		checkLast(t, l, code(1, 7), true, k+7, true)
		checkLast(t, l, code(1, 7), false, k, true)
	}
}

// canons are lists, and whether they are tables, with step and without it.
var canons = []struct {
	t         []api.Span
	step, not bool
}{
	{nil, true, true}, {[]api.Span{}, true, true},
	{[]api.Span{one(1, 10, 20, 5)}, true, true}, {[]api.Span{one(4, 0xFFFFFFFF, 0xFFFFFFFF, 65535)}, true, true},
	// one that is not Sane
	{[]api.Span{{}}, false, false}, {[]api.Span{one(1, 10, 9, 5)}, false, false}, {[]api.Span{one(1, 0, 1, 65535)}, false, true},
	{[]api.Span{one(1, 10, 20, 5), one(1, 30, 29, 5)}, false, false}, {[]api.Span{one(0, 0, 0, 0), one(1, 10, 20, 5)}, false, false}, {[]api.Span{one(1, 10, 20, 5), one(5, 0, 0, 0)}, false, false}, {[]api.Span{one(1, 10, 20, 5), one(1, 30, 31, 65535)}, false, true},
	{[]api.Span{one(1, 10, 20, 5), one(1, 22, 22, -1), one(1, 30, 30, 0)}, false, false},
	// two apart, and side by side
	{[]api.Span{one(1, 10, 20, 5), one(1, 22, 30, 5)}, true, true}, {[]api.Span{one(1, 10, 20, 5), one(1, 22, 30, 17)}, true, true}, {[]api.Span{one(1, 10, 20, 5), one(1, 22, 30, 16)}, true, true}, {[]api.Span{one(1, 10, 20, 5), one(1, 21, 30, 99)}, true, true},
	// two that meet
	{[]api.Span{one(1, 10, 20, 5), one(1, 20, 30, 99)}, false, false}, {[]api.Span{one(1, 10, 20, 5), one(1, 20, 20, 15)}, false, false}, {[]api.Span{one(1, 10, 20, 5), one(1, 10, 20, 5)}, false, false}, {[]api.Span{one(1, 10, 20, 5), one(1, 15, 15, 99)}, false, false}, {[]api.Span{one(1, 10, 20, 5), one(1, 10, 10, 99)}, false, false}, {[]api.Span{one(1, 15, 15, 5), one(1, 10, 20, 99)}, false, false}, {[]api.Span{one(1, 10, 20, 5), one(1, 5, 10, 99)}, false, false},
	// two in the wrong order
	{[]api.Span{one(1, 22, 30, 99), one(1, 10, 20, 5)}, false, false}, {[]api.Span{one(1, 21, 30, 99), one(1, 10, 20, 5)}, false, false}, {[]api.Span{one(2, 10, 20, 5), one(1, 22, 30, 99)}, false, false}, {[]api.Span{one(2, 0, 0, 5), one(1, 255, 255, 99)}, false, false}, {[]api.Span{one(4, 10, 20, 5), one(3, 10, 20, 5)}, false, false},
	{[]api.Span{one(1, 0, 1, 7), one(1, 9, 9, 7), one(1, 5, 6, 7)}, false, false},
	// of other N, whatever Lo and Hi are
	{[]api.Span{one(1, 10, 20, 5), one(2, 10, 20, 5)}, true, true}, {[]api.Span{one(1, 255, 255, 5), one(2, 0, 0, 5)}, true, true}, {[]api.Span{one(1, 255, 255, 5), one(2, 256, 256, 6)}, true, true}, {[]api.Span{one(1, 255, 255, 5), one(2, 256, 256, 5)}, true, true}, {[]api.Span{one(1, 10, 20, 5), one(2, 21, 30, 16)}, true, true}, {[]api.Span{one(1, 10, 20, 5), one(4, 21, 30, 5)}, true, true}, {[]api.Span{one(2, 0, 65535, 0), one(3, 0, 65535, 0)}, true, true}, {[]api.Span{one(1, 7, 7, 0), one(2, 6, 6, 0), one(3, 5, 5, 0), one(4, 4, 4, 0)}, true, true},
	// two that could be one, with step, and what they go to one beside
	{[]api.Span{one(1, 10, 20, 5), one(1, 21, 30, 16)}, false, true}, {[]api.Span{one(1, 10, 20, 5), one(1, 21, 30, 15)}, true, true}, {[]api.Span{one(1, 10, 20, 5), one(1, 21, 30, 17)}, true, true}, {[]api.Span{one(1, 20, 20, 5), one(1, 21, 21, 6)}, false, true}, {[]api.Span{one(4, 0xFFFFFFFE, 0xFFFFFFFE, 65534), one(4, 0xFFFFFFFF, 0xFFFFFFFF, 65535)}, false, true}, {[]api.Span{one(2, 0, 32767, 0), one(2, 32768, 65535, 32768)}, false, true},
	// two that could be one, without step, and what they go to one beside
	{[]api.Span{one(1, 10, 20, 5), one(1, 21, 30, 5)}, true, false}, {[]api.Span{one(1, 10, 20, 5), one(1, 21, 30, 4)}, true, true}, {[]api.Span{one(1, 10, 20, 5), one(1, 21, 30, 6)}, true, true}, {[]api.Span{one(1, 20, 20, 5), one(1, 21, 21, 5)}, true, false}, {[]api.Span{one(1, 20, 20, 5), one(1, 21, 21, 4)}, true, true}, {[]api.Span{one(4, 0xFFFFFFFE, 0xFFFFFFFE, 65535), one(4, 0xFFFFFFFF, 0xFFFFFFFF, 65535)}, true, false},
	// the last two of some
	{[]api.Span{one(1, 0, 0, 5), one(1, 5, 9, 7), one(1, 10, 10, 12)}, false, true}, {[]api.Span{one(1, 0, 0, 5), one(1, 5, 9, 7), one(1, 10, 10, 7)}, true, false}, {[]api.Span{one(1, 0, 0, 5), one(1, 5, 9, 7), one(1, 10, 10, 50)}, true, true},
	{[]api.Span{one(1, 0, 0, 5), one(1, 1, 1, 6), one(1, 10, 10, 50)}, false, true}, {[]api.Span{one(1, 0, 0, 5), one(1, 1, 1, 5), one(1, 10, 10, 50)}, true, false},
}

// P7.3
func TestCanon(t *testing.T) {
	for _, x := range canons {
		checkCanon(t, x.t, true, x.step)
		checkCanon(t, x.t, false, x.not)
	}
}

// P7.3: each two of ones at the edges.
func TestCanonTwo(t *testing.T) {
	all := slices.Concat(sane, steep, wrong)
	for _, a := range all {
		for _, b := range all {
			for _, step := range both {
				l := []api.Span{a, b}
				checkCanon(t, l, step, plainCanon(l, step))
			}
		}
	}
}

// P7.3: two side by side, with all numbers round those that they would have to go to.
func TestCanonBeside(t *testing.T) {
	for n := 1; n <= 4; n++ {
		for _, lo := range []int{0, 7, greatest[n] - 9} {
			a := one(n, lo, lo+4, 100)
			for to := 95; to <= 110; to++ {
				for gap := -1; gap <= 1; gap++ {
					l := []api.Span{a, one(n, lo+5+gap, lo+8, to)}
					checkCanon(t, l, true, gap > 0 || gap == 0 && to != 105)
					checkCanon(t, l, false, gap > 0 || gap == 0 && to != 100)
				}
			}
		}
	}
}

// Tables to which one is put: one span, some with gaps between them, and ones that what is put between them joins with step, and without it.
var (
	base  = []api.Span{one(1, 10, 20, 100)}
	three = []api.Span{one(1, 10, 14, 100), one(1, 20, 24, 150), one(1, 30, 34, 10)}
	gaps  = []api.Span{one(1, 10, 14, 100), one(1, 20, 24, 110)}
	flat  = []api.Span{one(1, 10, 14, 7), one(1, 20, 24, 7)}
)

// puts are tables, with one put, and what comes of it, with step and without it.
var puts = []struct {
	t         []api.Span
	s         api.Span
	step, not []api.Span
}{
	{nil, one(1, 10, 20, 100), base, base},
	// ahead of another one, and behind it
	{base, one(1, 2, 5, 50), []api.Span{one(1, 2, 5, 50), one(1, 10, 20, 100)}, []api.Span{one(1, 2, 5, 50), one(1, 10, 20, 100)}},
	{base, one(1, 2, 9, 50), []api.Span{one(1, 2, 9, 50), one(1, 10, 20, 100)}, []api.Span{one(1, 2, 9, 50), one(1, 10, 20, 100)}},
	{base, one(1, 30, 35, 50), []api.Span{one(1, 10, 20, 100), one(1, 30, 35, 50)}, []api.Span{one(1, 10, 20, 100), one(1, 30, 35, 50)}},
	{base, one(1, 21, 35, 50), []api.Span{one(1, 10, 20, 100), one(1, 21, 35, 50)}, []api.Span{one(1, 10, 20, 100), one(1, 21, 35, 50)}},
	// over its first part
	{base, one(1, 8, 12, 50), []api.Span{one(1, 8, 12, 50), one(1, 13, 20, 103)}, []api.Span{one(1, 8, 12, 50), one(1, 13, 20, 100)}},
	{base, one(1, 10, 12, 50), []api.Span{one(1, 10, 12, 50), one(1, 13, 20, 103)}, []api.Span{one(1, 10, 12, 50), one(1, 13, 20, 100)}},
	{base, one(1, 10, 10, 50), []api.Span{one(1, 10, 10, 50), one(1, 11, 20, 101)}, []api.Span{one(1, 10, 10, 50), one(1, 11, 20, 100)}},
	{base, one(1, 9, 10, 50), []api.Span{one(1, 9, 10, 50), one(1, 11, 20, 101)}, []api.Span{one(1, 9, 10, 50), one(1, 11, 20, 100)}},
	{base, one(1, 10, 19, 50), []api.Span{one(1, 10, 19, 50), one(1, 20, 20, 110)}, []api.Span{one(1, 10, 19, 50), one(1, 20, 20, 100)}},
	// over its last part
	{base, one(1, 18, 25, 50), []api.Span{one(1, 10, 17, 100), one(1, 18, 25, 50)}, []api.Span{one(1, 10, 17, 100), one(1, 18, 25, 50)}},
	{base, one(1, 18, 20, 50), []api.Span{one(1, 10, 17, 100), one(1, 18, 20, 50)}, []api.Span{one(1, 10, 17, 100), one(1, 18, 20, 50)}},
	{base, one(1, 20, 20, 50), []api.Span{one(1, 10, 19, 100), one(1, 20, 20, 50)}, []api.Span{one(1, 10, 19, 100), one(1, 20, 20, 50)}},
	{base, one(1, 20, 21, 50), []api.Span{one(1, 10, 19, 100), one(1, 20, 21, 50)}, []api.Span{one(1, 10, 19, 100), one(1, 20, 21, 50)}},
	{base, one(1, 11, 20, 50), []api.Span{one(1, 10, 10, 100), one(1, 11, 20, 50)}, []api.Span{one(1, 10, 10, 100), one(1, 11, 20, 50)}},
	// into its midst
	{base, one(1, 14, 16, 50), []api.Span{one(1, 10, 13, 100), one(1, 14, 16, 50), one(1, 17, 20, 107)}, []api.Span{one(1, 10, 13, 100), one(1, 14, 16, 50), one(1, 17, 20, 100)}},
	{base, one(1, 15, 15, 99), []api.Span{one(1, 10, 14, 100), one(1, 15, 15, 99), one(1, 16, 20, 106)}, []api.Span{one(1, 10, 14, 100), one(1, 15, 15, 99), one(1, 16, 20, 100)}},
	{base, one(1, 11, 19, 0), []api.Span{one(1, 10, 10, 100), one(1, 11, 19, 0), one(1, 20, 20, 110)}, []api.Span{one(1, 10, 10, 100), one(1, 11, 19, 0), one(1, 20, 20, 100)}},
	// over all of it
	{base, one(1, 10, 20, 50), []api.Span{one(1, 10, 20, 50)}, []api.Span{one(1, 10, 20, 50)}},
	{base, one(1, 9, 20, 50), []api.Span{one(1, 9, 20, 50)}, []api.Span{one(1, 9, 20, 50)}},
	{base, one(1, 10, 21, 50), []api.Span{one(1, 10, 21, 50)}, []api.Span{one(1, 10, 21, 50)}},
	{base, one(1, 0, 255, 50), []api.Span{one(1, 0, 255, 50)}, []api.Span{one(1, 0, 255, 50)}},
	// the same one twice, and one that tells of some codes what is told of them
	{base, base[0], base, base},
	{base, one(1, 14, 16, 104), base, []api.Span{one(1, 10, 13, 100), one(1, 14, 16, 104), one(1, 17, 20, 100)}},
	{base, one(1, 14, 16, 100), []api.Span{one(1, 10, 13, 100), one(1, 14, 16, 100), one(1, 17, 20, 107)}, base},
	{base, one(1, 14, 25, 104), []api.Span{one(1, 10, 25, 100)}, []api.Span{one(1, 10, 13, 100), one(1, 14, 25, 104)}},
	{base, one(1, 14, 25, 100), []api.Span{one(1, 10, 13, 100), one(1, 14, 25, 100)}, []api.Span{one(1, 10, 25, 100)}},
	{base, one(1, 8, 15, 98), []api.Span{one(1, 8, 20, 98)}, []api.Span{one(1, 8, 15, 98), one(1, 16, 20, 100)}},
	{base, one(1, 8, 15, 100), []api.Span{one(1, 8, 15, 100), one(1, 16, 20, 106)}, []api.Span{one(1, 8, 20, 100)}},
	// several: ahead, behind, between, over the first parts, over the last parts, over all of some
	{three, one(1, 2, 9, 50), []api.Span{one(1, 2, 9, 50), three[0], three[1], three[2]}, []api.Span{one(1, 2, 9, 50), three[0], three[1], three[2]}},
	{three, one(1, 40, 50, 50), []api.Span{three[0], three[1], three[2], one(1, 40, 50, 50)}, []api.Span{three[0], three[1], three[2], one(1, 40, 50, 50)}},
	{three, one(1, 15, 19, 50), []api.Span{three[0], one(1, 15, 19, 50), three[1], three[2]}, []api.Span{three[0], one(1, 15, 19, 50), three[1], three[2]}},
	{three, one(1, 16, 18, 50), []api.Span{three[0], one(1, 16, 18, 50), three[1], three[2]}, []api.Span{three[0], one(1, 16, 18, 50), three[1], three[2]}},
	{three, one(1, 25, 29, 50), []api.Span{three[0], three[1], one(1, 25, 29, 50), three[2]}, []api.Span{three[0], three[1], one(1, 25, 29, 50), three[2]}},
	{three, one(1, 12, 22, 50), []api.Span{one(1, 10, 11, 100), one(1, 12, 22, 50), one(1, 23, 24, 153), three[2]}, []api.Span{one(1, 10, 11, 100), one(1, 12, 22, 50), one(1, 23, 24, 150), three[2]}},
	{three, one(1, 12, 32, 50), []api.Span{one(1, 10, 11, 100), one(1, 12, 32, 50), one(1, 33, 34, 13)}, []api.Span{one(1, 10, 11, 100), one(1, 12, 32, 50), one(1, 33, 34, 10)}},
	{three, one(1, 10, 24, 50), []api.Span{one(1, 10, 24, 50), three[2]}, []api.Span{one(1, 10, 24, 50), three[2]}},
	{three, one(1, 20, 34, 50), []api.Span{three[0], one(1, 20, 34, 50)}, []api.Span{three[0], one(1, 20, 34, 50)}},
	{three, one(1, 20, 24, 50), []api.Span{three[0], one(1, 20, 24, 50), three[2]}, []api.Span{three[0], one(1, 20, 24, 50), three[2]}},
	{three, one(1, 15, 29, 50), []api.Span{three[0], one(1, 15, 29, 50), three[2]}, []api.Span{three[0], one(1, 15, 29, 50), three[2]}},
	{three, one(1, 14, 30, 50), []api.Span{one(1, 10, 13, 100), one(1, 14, 30, 50), one(1, 31, 34, 11)}, []api.Span{one(1, 10, 13, 100), one(1, 14, 30, 50), one(1, 31, 34, 10)}},
	{three, one(1, 22, 22, 50), []api.Span{three[0], one(1, 20, 21, 150), one(1, 22, 22, 50), one(1, 23, 24, 153), three[2]}, []api.Span{three[0], one(1, 20, 21, 150), one(1, 22, 22, 50), one(1, 23, 24, 150), three[2]}},
	{three, one(1, 10, 34, 50), []api.Span{one(1, 10, 34, 50)}, []api.Span{one(1, 10, 34, 50)}},
	{three, one(1, 0, 255, 50), []api.Span{one(1, 0, 255, 50)}, []api.Span{one(1, 0, 255, 50)}},
	{three, one(1, 25, 255, 50), []api.Span{three[0], three[1], one(1, 25, 255, 50)}, []api.Span{three[0], three[1], one(1, 25, 255, 50)}},
	{three, one(1, 0, 29, 50), []api.Span{one(1, 0, 29, 50), three[2]}, []api.Span{one(1, 0, 29, 50), three[2]}},
	// one that joins, with step: with the one ahead of it, with the one behind it, with both; and one beside that
	{gaps, one(1, 15, 18, 105), []api.Span{one(1, 10, 18, 100), gaps[1]}, []api.Span{gaps[0], one(1, 15, 18, 105), gaps[1]}},
	{gaps, one(1, 16, 19, 106), []api.Span{gaps[0], one(1, 16, 24, 106)}, []api.Span{gaps[0], one(1, 16, 19, 106), gaps[1]}},
	{gaps, one(1, 15, 19, 105), []api.Span{one(1, 10, 24, 100)}, []api.Span{gaps[0], one(1, 15, 19, 105), gaps[1]}},
	{gaps, one(1, 15, 19, 104), []api.Span{gaps[0], one(1, 15, 19, 104), gaps[1]}, []api.Span{gaps[0], one(1, 15, 19, 104), gaps[1]}},
	{gaps, one(1, 15, 19, 106), []api.Span{gaps[0], one(1, 15, 19, 106), gaps[1]}, []api.Span{gaps[0], one(1, 15, 19, 106), gaps[1]}},
	{gaps, one(1, 16, 18, 106), []api.Span{gaps[0], one(1, 16, 18, 106), gaps[1]}, []api.Span{gaps[0], one(1, 16, 18, 106), gaps[1]}},
	{gaps, one(1, 12, 22, 102), []api.Span{one(1, 10, 24, 100)}, []api.Span{one(1, 10, 11, 100), one(1, 12, 22, 102), one(1, 23, 24, 110)}},
	{gaps, one(1, 25, 30, 115), []api.Span{gaps[0], one(1, 20, 30, 110)}, []api.Span{gaps[0], gaps[1], one(1, 25, 30, 115)}},
	{gaps, one(1, 5, 9, 95), []api.Span{one(1, 5, 14, 95), gaps[1]}, []api.Span{one(1, 5, 9, 95), gaps[0], gaps[1]}},
	// the same, without step
	{flat, one(1, 15, 18, 7), []api.Span{flat[0], one(1, 15, 18, 7), flat[1]}, []api.Span{one(1, 10, 18, 7), flat[1]}},
	{flat, one(1, 16, 19, 7), []api.Span{flat[0], one(1, 16, 19, 7), flat[1]}, []api.Span{flat[0], one(1, 16, 24, 7)}},
	{flat, one(1, 15, 19, 7), []api.Span{flat[0], one(1, 15, 19, 7), flat[1]}, []api.Span{one(1, 10, 24, 7)}},
	{flat, one(1, 15, 19, 6), []api.Span{flat[0], one(1, 15, 19, 6), flat[1]}, []api.Span{flat[0], one(1, 15, 19, 6), flat[1]}},
	{flat, one(1, 15, 19, 8), []api.Span{flat[0], one(1, 15, 19, 8), flat[1]}, []api.Span{flat[0], one(1, 15, 19, 8), flat[1]}},
	{flat, one(1, 16, 18, 7), []api.Span{flat[0], one(1, 16, 18, 7), flat[1]}, []api.Span{flat[0], one(1, 16, 18, 7), flat[1]}},
	{flat, one(1, 12, 22, 7), []api.Span{one(1, 10, 11, 7), one(1, 12, 22, 7), one(1, 23, 24, 10)}, []api.Span{one(1, 10, 24, 7)}},
	{flat, one(1, 25, 30, 7), []api.Span{flat[0], flat[1], one(1, 25, 30, 7)}, []api.Span{flat[0], one(1, 20, 30, 7)}},
	{flat, one(1, 5, 9, 7), []api.Span{one(1, 5, 9, 7), flat[0], flat[1]}, []api.Span{one(1, 5, 14, 7), flat[1]}},
	// of another number of bytes
	{base, one(2, 10, 20, 50), []api.Span{base[0], one(2, 10, 20, 50)}, []api.Span{base[0], one(2, 10, 20, 50)}},
	{base, one(2, 21, 30, 111), []api.Span{base[0], one(2, 21, 30, 111)}, []api.Span{base[0], one(2, 21, 30, 111)}},
	{base, one(2, 21, 30, 100), []api.Span{base[0], one(2, 21, 30, 100)}, []api.Span{base[0], one(2, 21, 30, 100)}},
	{[]api.Span{one(2, 10, 20, 100), one(4, 10, 20, 100)}, one(3, 0, 255, 100), []api.Span{one(2, 10, 20, 100), one(3, 0, 255, 100), one(4, 10, 20, 100)}, []api.Span{one(2, 10, 20, 100), one(3, 0, 255, 100), one(4, 10, 20, 100)}},
	{[]api.Span{one(2, 10, 20, 100)}, one(1, 15, 15, 0), []api.Span{one(1, 15, 15, 0), one(2, 10, 20, 100)}, []api.Span{one(1, 15, 15, 0), one(2, 10, 20, 100)}},
	{[]api.Span{one(2, 256, 256, 6)}, one(1, 255, 255, 5), []api.Span{one(1, 255, 255, 5), one(2, 256, 256, 6)}, []api.Span{one(1, 255, 255, 5), one(2, 256, 256, 6)}},
	// the first and the last code of all
	{[]api.Span{one(1, 0, 255, 0)}, one(1, 0, 0, 9), []api.Span{one(1, 0, 0, 9), one(1, 1, 255, 1)}, []api.Span{one(1, 0, 0, 9), one(1, 1, 255, 0)}},
	{[]api.Span{one(1, 0, 255, 0)}, one(1, 255, 255, 9), []api.Span{one(1, 0, 254, 0), one(1, 255, 255, 9)}, []api.Span{one(1, 0, 254, 0), one(1, 255, 255, 9)}},
	{[]api.Span{one(4, 0xFFFF0000, 0xFFFFFFFF, 0)}, one(4, 0xFFFFFFFF, 0xFFFFFFFF, 9), []api.Span{one(4, 0xFFFF0000, 0xFFFFFFFE, 0), one(4, 0xFFFFFFFF, 0xFFFFFFFF, 9)}, []api.Span{one(4, 0xFFFF0000, 0xFFFFFFFE, 0), one(4, 0xFFFFFFFF, 0xFFFFFFFF, 9)}},
	{[]api.Span{one(4, 0, 9, 65526)}, one(4, 5, 5, 0), []api.Span{one(4, 0, 4, 65526), one(4, 5, 5, 0), one(4, 6, 9, 65532)}, []api.Span{one(4, 0, 4, 65526), one(4, 5, 5, 0), one(4, 6, 9, 65526)}},
}

// P7.4: one put to a table; and that Build tells the same of the list, and of it in two parts.
func TestPut(t *testing.T) {
	for _, x := range puts {
		for _, step := range both {
			want := x.not
			if step {
				want = x.step
			}
			checkPut(t, x.t, x.s, step, want)
			checkBuild(t, slices.Concat(x.t, []api.Span{x.s}), step, want)
			checkBuild(t, slices.Concat(want, []api.Span{x.s}), step, want)
			checkPut(t, want, x.s, step, want)
		}
	}
}

// P7.4: a table of ones that do not meet is the same in whatever order they come.
func TestBuildOrder(t *testing.T) {
	tab := []api.Span{one(1, 10, 14, 100), one(1, 20, 24, 150), one(1, 30, 34, 10), one(2, 0, 9, 7), one(4, 0, 9, 7)}
	rnd := rand.New(rand.NewSource(74))
	for range 200 {
		l := slices.Clone(tab)
		rnd.Shuffle(len(l), func(i, j int) { l[i], l[j] = l[j], l[i] })
		checkBuild(t, l, true, tab)
		checkBuild(t, l, false, tab)
	}
}

// builds are lists, and what comes of them, with step and without it.
var builds = []struct{ l, step, not []api.Span }{
	{nil, nil, nil}, {[]api.Span{}, nil, nil},
	{[]api.Span{one(1, 10, 20, 5)}, []api.Span{one(1, 10, 20, 5)}, []api.Span{one(1, 10, 20, 5)}},
	{[]api.Span{one(1, 20, 10, 5), one(1, 0, 256, 5), {}, one(1, 1, 2, -1), one(1, 1, 1, 65536)}, nil, nil},
	{[]api.Span{one(1, 1, 2, 65535)}, nil, []api.Span{one(1, 1, 2, 65535)}},
	{[]api.Span{one(4, 0, 0xFFFFFFFF, 7)}, nil, []api.Span{one(4, 0, 0xFFFFFFFF, 7)}},
	{[]api.Span{one(1, 10, 20, 5), one(1, 12, 13, 65535)}, []api.Span{one(1, 10, 20, 5)}, []api.Span{one(1, 10, 11, 5), one(1, 12, 13, 65535), one(1, 14, 20, 5)}},
	// the same one, some times, and another one between
	{[]api.Span{one(1, 10, 20, 5), one(1, 10, 20, 5), one(1, 10, 20, 5)}, []api.Span{one(1, 10, 20, 5)}, []api.Span{one(1, 10, 20, 5)}},
	{[]api.Span{one(1, 10, 20, 5), one(1, 0, 30, 99), one(1, 10, 20, 5)}, []api.Span{one(1, 0, 9, 99), one(1, 10, 20, 5), one(1, 21, 30, 120)}, []api.Span{one(1, 0, 9, 99), one(1, 10, 20, 5), one(1, 21, 30, 99)}},
	// each code on its own, put together
	{[]api.Span{one(1, 3, 3, 13), one(1, 1, 1, 11), one(1, 2, 2, 12), one(1, 0, 0, 10)}, []api.Span{one(1, 0, 3, 10)}, []api.Span{one(1, 0, 0, 10), one(1, 1, 1, 11), one(1, 2, 2, 12), one(1, 3, 3, 13)}},
	{[]api.Span{one(1, 3, 3, 10), one(1, 1, 1, 10), one(1, 2, 2, 10), one(1, 0, 0, 10)}, []api.Span{one(1, 0, 0, 10), one(1, 1, 1, 10), one(1, 2, 2, 10), one(1, 3, 3, 10)}, []api.Span{one(1, 0, 3, 10)}},
	// ones in one another, from the widest on, and from the narrowest on
	{[]api.Span{one(1, 0, 9, 10), one(1, 1, 8, 30), one(1, 2, 7, 50), one(1, 4, 4, 70)}, []api.Span{one(1, 0, 0, 10), one(1, 1, 1, 30), one(1, 2, 3, 50), one(1, 4, 4, 70), one(1, 5, 7, 53), one(1, 8, 8, 37), one(1, 9, 9, 19)}, []api.Span{one(1, 0, 0, 10), one(1, 1, 1, 30), one(1, 2, 3, 50), one(1, 4, 4, 70), one(1, 5, 7, 50), one(1, 8, 8, 30), one(1, 9, 9, 10)}},
	{[]api.Span{one(1, 4, 4, 70), one(1, 2, 7, 50), one(1, 1, 8, 30), one(1, 0, 9, 10)}, []api.Span{one(1, 0, 9, 10)}, []api.Span{one(1, 0, 9, 10)}},
	// two cut one into three
	{[]api.Span{one(1, 0, 20, 0), one(1, 5, 5, 99), one(1, 10, 11, 88)}, []api.Span{one(1, 0, 4, 0), one(1, 5, 5, 99), one(1, 6, 9, 6), one(1, 10, 11, 88), one(1, 12, 20, 12)}, []api.Span{one(1, 0, 4, 0), one(1, 5, 5, 99), one(1, 6, 9, 0), one(1, 10, 11, 88), one(1, 12, 20, 0)}},
	// what joins only when what was between is overridden
	{[]api.Span{one(1, 0, 9, 0), one(1, 5, 5, 99), one(1, 5, 5, 5)}, []api.Span{one(1, 0, 9, 0)}, []api.Span{one(1, 0, 4, 0), one(1, 5, 5, 5), one(1, 6, 9, 0)}},
	{[]api.Span{one(1, 0, 9, 0), one(1, 5, 5, 99), one(1, 5, 5, 0)}, []api.Span{one(1, 0, 4, 0), one(1, 5, 5, 0), one(1, 6, 9, 6)}, []api.Span{one(1, 0, 9, 0)}},
	// the chapter's example
	{[]api.Span{one(1, 10, 20, 5), one(1, 15, 15, 99)}, []api.Span{one(1, 10, 14, 5), one(1, 15, 15, 99), one(1, 16, 20, 11)}, []api.Span{one(1, 10, 14, 5), one(1, 15, 15, 99), one(1, 16, 20, 5)}},
}

// P7.4
func TestBuild(t *testing.T) {
	for _, x := range builds {
		checkBuild(t, x.l, true, x.step)
		checkBuild(t, x.l, false, x.not)
	}
}

// P7.4: each of two at the edges behind the other one, and round one that is not Sane.
func TestBuildTwo(t *testing.T) {
	all := slices.Concat(sane, steep)
	for _, a := range all {
		for _, b := range all {
			for _, step := range both {
				l := []api.Span{a, b}
				checkBuild(t, l, step, plainBuild(l, step))
				checkPut(t, []api.Span{a}, b, step, plainBuild(l, step))
				checkBuild(t, []api.Span{a, wrong[13], b}, step, plainBuild(l, step))
			}
		}
	}
}

// P7.4: Put to what is no table is Build of it, too.
func TestPutNoTable(t *testing.T) {
	for _, x := range builds {
		for _, s := range []api.Span{one(1, 4, 12, 200), one(2, 0, 0, 0), {}} {
			for _, step := range both {
				checkPut(t, x.l, s, step, plainBuild(slices.Concat(x.l, []api.Span{s}), step))
			}
		}
	}
}

// P7.4
func TestFind(t *testing.T) {
	tab := []api.Span{one(1, 10, 20, 5), one(1, 21, 21, 99), one(2, 0, 9, 1), one(2, 300, 300, 50), one(4, 0xFFFFFFFE, 0xFFFFFFFF, 0)}
	for _, x := range []struct {
		c         api.Code
		step, not int
		ok        bool
	}{
		{code(1, 10), 5, 5, true}, {code(1, 15), 10, 5, true}, {code(1, 20), 15, 5, true}, {code(1, 21), 99, 99, true}, {code(1, 9), 0, 0, false}, {code(1, 22), 0, 0, false}, {code(1, 0), 0, 0, false}, {code(1, 255), 0, 0, false},
		{code(2, 0), 1, 1, true}, {code(2, 9), 10, 1, true}, {code(2, 10), 0, 0, false}, {code(2, 21), 0, 0, false}, {code(2, 299), 0, 0, false}, {code(2, 300), 50, 50, true}, {code(2, 301), 0, 0, false}, {code(2, 65535), 0, 0, false},
		{code(4, 0xFFFFFFFD), 0, 0, false}, {code(4, 0xFFFFFFFE), 0, 0, true}, {code(4, 0xFFFFFFFF), 1, 0, true}, {code(4, 0x100000000), 0, 0, false}, {code(4, 0), 0, 0, false},
		{code(3, 0), 0, 0, false}, {code(3, 300), 0, 0, false}, {code(0, 0), 0, 0, false}, {api.Code{}, 0, 0, false}, {code(-1, 15), 0, 0, false}, {code(5, 15), 0, 0, false}, {code(1, 266), 0, 0, false}, {code(1, -1), 0, 0, false}, {code(1, math.MinInt), 0, 0, false}, {code(1, math.MaxInt), 0, 0, false}, {code(math.MinInt, math.MinInt), 0, 0, false}, {code(math.MaxInt, math.MaxInt), 0, 0, false},
	} {
		checkFind(t, tab, x.c, true, x.step, x.ok)
		checkFind(t, tab, x.c, false, x.not, x.ok)
		checkFind(t, nil, x.c, true, 0, false)
		checkFind(t, []api.Span{}, x.c, false, 0, false)
	}
}

// P7.4: what is no table tells nothing, even of codes that one of it alone tells of.
func TestFindNoTable(t *testing.T) {
	for _, x := range canons {
		for _, c := range slices.Concat(edges(x.t), []api.Code{{}, code(1, 0), code(5, 0)}) {
			for _, step := range both {
				to, ok := 0, false
				if step && x.step || !step && x.not {
					to, ok = plainLast(x.t, c, step)
				}
				checkFind(t, x.t, c, step, to, ok)
			}
		}
	}
}

// P7.4: all codes of one byte by tables of any kind, and all numbers at the edges by tables at the edges.
func TestFindAll(t *testing.T) {
	codes := oddCodes()
	for _, x := range puts {
		l := slices.Concat(x.t, []api.Span{x.s})
		for _, step := range both {
			tab := Build(l, step)
			for v := -1; v <= 256; v++ {
				to, ok := plainLast(l, code(1, v), step)
				checkFind(t, tab, code(1, v), step, to, ok)
			}
			for _, c := range codes {
				to, ok := plainLast(l, c, step)
				checkFind(t, tab, c, step, to, ok)
			}
		}
	}
}

// someSpan is one whose ends and whose number are often those at which it meets, or joins, others.
func someSpan(r *rand.Rand, n, most int) api.Span {
	base := []int{0, greatest[n] - most}[r.Intn(2)]
	x, y := r.Intn(most+1), r.Intn(most+1)
	if r.Intn(4) == 0 {
		y = x
	}
	s := one(n, base+min(x, y), base+max(x, y), 0)
	switch r.Intn(4) {
	case 0:
		s.To = 7
	case 1:
		s.To = r.Intn(3)
	default:
		s.To = min(x, y) + 10*r.Intn(2) // those with the same multiple join, with step
	}
	if r.Intn(10) == 0 {
		s.To = 65535 - r.Intn(most+1)
	}
	return s
}

func someList(r *rand.Rand) (l []api.Span) {
	most := []int{3, 9, 30, 255}[r.Intn(4)]
	ns := 1 + r.Intn(4)
	for range r.Intn(25) {
		switch r.Intn(12) {
		case 0:
			l = append(l, wrong[r.Intn(len(wrong))])
		case 1:
			l = append(l, steep[r.Intn(len(steep))])
		default:
			l = append(l, someSpan(r, 1+r.Intn(ns), most))
		}
	}
	return l
}

// P7.4: lists of any kind: at once, and one after the other.
func TestBuildSome(t *testing.T) {
	rnd := rand.New(rand.NewSource(75))
	for range 10000 {
		l := someList(rnd)
		for _, step := range both {
			want := plainBuild(l, step)
			if !plainCanon(want, step) {
				t.Fatalf("the model's own table %v, %v", want, step)
			}
			checkBuild(t, l, step, want)
			cut := rnd.Intn(len(l) + 1)
			checkBuild(t, slices.Concat(Build(l[:cut], step), l[cut:]), step, want)
			if len(l) > 0 {
				end := len(l) - 1
				checkPut(t, Build(l[:end], step), l[end], step, want)
				checkPut(t, l[:end], l[end], step, want)
			}
		}
	}
}

// P7.4: one after the other, from nothing on, is all at once.
func TestPutSome(t *testing.T) {
	rnd := rand.New(rand.NewSource(76))
	for range 2000 {
		l := someList(rnd)
		for _, step := range both {
			var tab []api.Span
			for i, s := range l {
				tab = Put(tab, s, step)
				if want := Build(l[:i+1], step); !slices.Equal(tab, want) {
					t.Fatalf("Put of each of %v, %v = %v, want %v", l[:i+1], step, tab, want)
				}
			}
		}
	}
}

// P7.3: lists of any kind, most of which are no tables, and tables in which one number is another one.
func TestCanonSome(t *testing.T) {
	rnd := rand.New(rand.NewSource(77))
	for range 20000 {
		l := someList(rnd)
		for _, step := range both {
			checkCanon(t, l, step, plainCanon(l, step))
			tab := Build(l, step)
			if len(tab) == 0 {
				continue
			}
			s := &tab[rnd.Intn(len(tab))]
			*[]*int{&s.N, &s.Lo, &s.Hi, &s.To}[rnd.Intn(4)] += rnd.Intn(3) - 1
			checkCanon(t, tab, step, plainCanon(tab, step))
		}
	}
}

// P7.4: what is answered is new: the list, the table and what is left over may be changed behind the call.
func TestIsNew(t *testing.T) {
	tab := []api.Span{one(1, 5, 9, 3), one(2, 5, 9, 3), one(3, 5, 9, 3)}
	for _, step := range both {
		want := slices.Clone(tab)
		l := slices.Clone(tab)
		got := Build(l, step)
		clear(l)
		if !slices.Equal(got, want) {
			t.Error("Build shares what it was given:", got)
		}
		l = slices.Clone(tab)
		got = Put(l, tab[1], step)
		clear(l)
		if !slices.Equal(got, want) {
			t.Error("Put shares what it was given:", got)
		}
		l = slices.Clone(tab)[:2]
		got = Put(l, tab[2], step)
		_ = append(l, api.Span{})
		if !slices.Equal(got, want) {
			t.Error("Put shares what stands behind what it was given:", got)
		}
	}
}

// P7.5: what is put overrides all of its codes, and nothing else.
func TestOverrides(t *testing.T) {
	rnd := rand.New(rand.NewSource(78))
	for range 1500 {
		l := someList(rnd)
		s := someSpan(rnd, 1+rnd.Intn(2), 40)
		if rnd.Intn(8) == 0 {
			s = wrong[rnd.Intn(len(wrong))]
		}
		for _, step := range both {
			tab := Build(l, step)
			more := Put(tab, s, step)
			var codes []api.Code
			for v := -1; v <= 300; v++ {
				codes = append(codes, code(1, v), code(2, v), code(2, 0xFFFF-v), code(3, v))
			}
			for _, c := range codes {
				to, ok := Find(tab, c, step)
				if v, is := plainTo(s, c, step); is {
					to, ok = v, true
				}
				checkFind(t, more, c, step, to, ok)
			}
		}
	}
}

// P7.5: one that is not Sane overrides nothing, even where all but what it goes to is right.
func TestOverridesNothing(t *testing.T) {
	tab := []api.Span{one(1, 10, 20, 5), one(1, 30, 40, 5)}
	for _, s := range []api.Span{one(1, 12, 35, -1), one(1, 12, 35, 65536), one(1, 35, 12, 7), one(1, -1, 35, 7), one(1, 12, 256, 7), one(0, 12, 35, 7), one(5, 12, 35, 7)} {
		checkPut(t, tab, s, true, tab)
		checkPut(t, tab, s, false, tab)
	}
	checkPut(t, tab, one(1, 12, 35, 65535-22), true, tab)
	checkPut(t, tab, one(1, 12, 35, 65535-23), true, []api.Span{one(1, 10, 11, 5), one(1, 12, 35, 65512), one(1, 36, 40, 11)})
	checkPut(t, tab, one(1, 12, 35, 65535-22), false, []api.Span{one(1, 10, 11, 5), one(1, 12, 35, 65513), one(1, 36, 40, 5)})
}

// What is left of one that is cut: told from the first part on, and no more once nobody asks.
func TestLeft(t *testing.T) {
	s := one(1, 10, 20, 5)
	for _, x := range []struct{ cuts, want []api.Span }{
		{nil, []api.Span{s}}, {[]api.Span{one(1, 21, 30, 0)}, []api.Span{s}}, {[]api.Span{one(2, 10, 20, 0)}, []api.Span{s}},
		{[]api.Span{one(1, 10, 20, 0)}, nil}, {[]api.Span{one(1, 0, 255, 0)}, nil}, {[]api.Span{one(1, 5, 14, 0), one(1, 15, 30, 0)}, nil},
		{[]api.Span{one(1, 5, 12, 0), one(1, 14, 14, 0), one(1, 16, 17, 0), one(1, 20, 20, 0), one(1, 22, 23, 0)}, []api.Span{one(1, 13, 13, 8), one(1, 15, 15, 10), one(1, 18, 19, 13)}},
	} {
		if got := slices.Collect(left(s, x.cuts, true)); !slices.Equal(got, x.want) {
			t.Errorf("left by %v: %v, want %v", x.cuts, got, x.want)
		}
		for range left(s, x.cuts, true) {
			break
		}
	}
}

// P1: long lists, of ones apart, in one another, and over one another, in order and back.
func TestLong(t *testing.T) {
	const many = 1 << 16
	var apart, within, over []api.Span
	for v := range many {
		apart = append(apart, one(3, v*2, v*2, 65535-v))
		within = append(within, one(4, v, 2*many-v, 65535-v))
		over = append(over, one(4, v, v+many/2, 65535-v))
	}
	back := slices.Clone(apart)
	slices.Reverse(back)
	for _, step := range both {
		for _, l := range [][]api.Span{apart, back, slices.Concat(apart, back, apart)} {
			if !slices.Equal(Build(l, step), apart) {
				t.Error("a long list of ones apart")
			}
		}
		if !Canon(apart, step) || Canon(back, step) {
			t.Error("a long table")
		}
		if to, ok := Find(apart, code(3, 2*many-2), step); to != 0 || !ok {
			t.Error("the last one of a long table:", to, ok)
		}
		if to, ok := Last(apart, code(3, 0), step); to != 65535 || !ok {
			t.Error("the first one of a long list:", to, ok)
		}
	}
	if got := Build(within, false); len(got) != 2*many-1 {
		t.Error("a long list of ones in one another:", len(got))
	}
	slices.Reverse(within)
	if got := Build(within, false); len(got) != 1 || got[0] != within[many-1] {
		t.Error("a long list of ones over one another:", len(got))
	}
	if got := Build(over, false); len(got) != many || got[many-1] != over[many-1] || got[5] != one(4, 5, 5, 65530) {
		t.Error("a long list of ones that meet:", len(got))
	}
}

// P1: one more and one more behind a long table.
func TestLongPut(t *testing.T) {
	var tab []api.Span
	for v := range 2000 {
		tab = Put(tab, one(2, v*7919%65536, v*7919%65536, v), true)
	}
	if len(tab) != 2000 || !Canon(tab, true) {
		t.Error("a long table of ones that are put:", len(tab))
	}
}

// P7.1 to P7.5 and P1 at bytes of any kind.
func FuzzBytes(f *testing.F) {
	f.Add([]byte{1, 0, 0, 0, 10, 0, 0, 0, 20, 0, 0, 5, 1, 0, 0, 0, 15, 0, 0, 0, 15, 0, 0, 99}, 1, 16, true)
	f.Add([]byte{1, 0, 0, 0, 10, 0, 0, 0, 20, 0, 0, 5, 1, 0, 0, 0, 21, 0, 0, 0, 30, 0, 0, 5}, 1, 21, false)
	f.Add([]byte{4, 255, 255, 0, 0, 255, 255, 255, 255, 0, 0, 0, 5, 0, 0, 0, 0, 0, 0, 0, 0, 0, 0, 0}, 4, 0xFFFFFFFF, true)
	f.Fuzz(func(t *testing.T, b []byte, n, v int, step bool) {
		var l []api.Span
		for ; len(b) >= 12 && len(l) < 200; b = b[12:] {
			to := int(b[9])<<16 | int(b[10])<<8 | int(b[11])
			l = append(l, one(int(int8(b[0])), int(binary.BigEndian.Uint32(b[1:])), int(binary.BigEndian.Uint32(b[5:])), to))
		}
		for _, s := range l {
			checkSane(t, s, step, plainSane(s, step))
			to, ok := plainTo(s, code(n, v), step)
			checkTo(t, s, code(n, v), step, to, ok)
		}
		checkCanon(t, l, step, plainCanon(l, step))
		want := plainBuild(l, step)
		checkBuild(t, l, step, want)
		to, ok := plainLast(l, code(n, v), step)
		checkLast(t, l, code(n, v), step, to, ok)
		checkFind(t, want, code(n, v), step, to, ok)
		if len(l) > 0 {
			end := len(l) - 1
			checkPut(t, Build(l[:end], step), l[end], step, want)
		}
	})
}

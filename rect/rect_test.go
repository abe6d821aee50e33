package rect

import (
	"cmp"
	"encoding/binary"
	"math"
	"math/rand"
	"slices"
	"testing"

	"hornbook/api"
)

// greatest is, for each number of bytes, the greatest number of so many.
var greatest = []int{0, 0xFF, 0xFFFF, 0xFFFFFF, 0xFFFFFFFF}

// oddNs are numbers of bytes that may be, and some that may not.
var oddNs = []int{math.MinInt, -1 << 32, -2, -1, 0, 1, 2, 3, 4, 5, 6, 8, 1<<32 + 1, math.MaxInt}

// oddVs are numbers at the edges of what 1 to 4 bytes may be.
var oddVs = []int{
	math.MinInt, -1<<32 + 1, -256, -1, 0, 1, 0x7F, 0x80, 0xFE, 0xFF, 0x100, 0x170, 0x8140, 0x9FFC, 0xFFFE, 0xFFFF, 0x10000,
	0xFFFFFE, 0xFFFFFF, 0x1000000, 0x7FFFFFFF, 0x80000000, 0xFFFFFFFE, 0xFFFFFFFF, 0x100000000, 1<<32 + 5, math.MaxInt,
}

func one(n, lo, hi int) api.Rect { return api.Rect{N: n, Lo: lo, Hi: hi} }

// oddRects are all of oddNs and oddVs; most of them may not be.
func oddRects() (l []api.Rect) {
	for _, n := range oddNs {
		for _, lo := range oddVs {
			for _, hi := range oddVs {
				l = append(l, one(n, lo, hi))
			}
		}
	}
	return l
}

// oddCodes are all of oddNs and oddVs.
func oddCodes() (l []api.Code) {
	for _, n := range oddNs {
		for _, v := range oddVs {
			l = append(l, api.Code{N: n, V: v})
		}
	}
	return l
}

// ofBytes is the codespace of as many bytes, which are not more than four.
func ofBytes(lo, hi []byte) api.Rect {
	r := api.Rect{N: len(lo)}
	for i := range lo {
		r.Lo = r.Lo*256 + int(lo[i])
		r.Hi = r.Hi*256 + int(hi[i])
	}
	return r
}

func codeOf(b []byte) api.Code { return api.Code{N: len(b), V: ofBytes(b, b).Lo} }

// plainBytes are the n bytes of v; nothing if that is no code.
func plainBytes(n, v int) []byte {
	if n < 1 || n > 4 || v < 0 || v > greatest[n] {
		return nil
	}
	return binary.BigEndian.AppendUint32(nil, uint32(v))[4-n:]
}

func plainSane(r api.Rect) bool {
	lo, hi := plainBytes(r.N, r.Lo), plainBytes(r.N, r.Hi)
	if lo == nil || hi == nil {
		return false
	}
	for i := range lo {
		if lo[i] > hi[i] {
			return false
		}
	}
	return true
}

func plainIn(r api.Rect, c api.Code) bool {
	b := plainBytes(c.N, c.V)
	return plainSane(r) && b != nil && c.N == r.N && plainFits(r, b) == r.N
}

func plainFits(r api.Rect, b []byte) (n int) {
	if !plainSane(r) {
		return 0
	}
	lo, hi := plainBytes(r.N, r.Lo), plainBytes(r.N, r.Hi)
	for i, x := range b {
		if i == r.N || x < lo[i] || x > hi[i] {
			break
		}
		n++
	}
	return n
}

func plainSize(r api.Rect) int {
	if !plainSane(r) {
		return 0
	}
	lo, hi := plainBytes(r.N, r.Lo), plainBytes(r.N, r.Hi)
	n := 1
	for i := range lo {
		n *= int(hi[i]) - int(lo[i]) + 1
	}
	return n
}

// plainCodes are all codes in r, of 1 or 2 bytes, from the lowest on.
func plainCodes(r api.Rect) (l []api.Code) {
	for v := range greatest[r.N] + 1 {
		if c := (api.Code{N: r.N, V: v}); plainIn(r, c) {
			l = append(l, c)
		}
	}
	return l
}

func plainHolds(a, b api.Rect) bool {
	if !plainSane(a) || !plainSane(b) || a.N != b.N {
		return false
	}
	aLo, aHi := plainBytes(a.N, a.Lo), plainBytes(a.N, a.Hi)
	bLo, bHi := plainBytes(b.N, b.Lo), plainBytes(b.N, b.Hi)
	for i := range aLo {
		if bLo[i] < aLo[i] || bHi[i] > aHi[i] {
			return false
		}
	}
	return true
}

func plainOrder(a, b api.Rect) int {
	return cmp.Or(cmp.Compare(a.N, b.N), cmp.Compare(a.Lo, b.Lo), cmp.Compare(a.Hi, b.Hi))
}

func plainCanon(l []api.Rect) (out []api.Rect) {
	for _, r := range l {
		held := slices.ContainsFunc(l, func(x api.Rect) bool { return x != r && plainHolds(x, r) })
		if plainSane(r) && !held && !slices.Contains(out, r) {
			out = append(out, r)
		}
	}
	slices.SortFunc(out, plainOrder)
	return out
}

// orders calls f with l in each of its orders.
func orders(l []api.Rect, f func([]api.Rect)) {
	var walk func(done, left []api.Rect)
	walk = func(done, left []api.Rect) {
		if len(left) == 0 {
			f(done)
		}
		for i := range left {
			walk(append(slices.Clone(done), left[i]), slices.Delete(slices.Clone(left), i, i+1))
		}
	}
	walk(nil, l)
}

// someRect is one of n bytes that is Sane, whose bounds are often the least or the greatest ones.
func someRect(r *rand.Rand, n, most int) api.Rect {
	lo, hi := make([]byte, n), make([]byte, n)
	for i := range n {
		x, y := r.Intn(most+1), r.Intn(most+1)
		switch r.Intn(6) {
		case 0:
			x, y = 0, most
		case 1:
			x = y
		}
		lo[i], hi[i] = byte(min(x, y)), byte(max(x, y))
	}
	return ofBytes(lo, hi)
}

// saneEdges are codespaces that may be, at the edges.
var saneEdges = []api.Rect{
	one(1, 0, 0), one(1, 0, 0xFF), one(1, 0xFF, 0xFF), one(1, 5, 5), one(1, 5, 9), one(1, 0, 0x80),
	one(2, 0, 0), one(2, 0, 0xFFFF), one(2, 0xFFFF, 0xFFFF), one(2, 0x8140, 0x9FFC), one(2, 0x8140, 0x8140), one(2, 0, 0xFF), one(2, 0x00FF, 0xFFFF), one(2, 0x0100, 0x01FF),
	one(3, 0, 0), one(3, 0, 0xFFFFFF), one(3, 0xFFFFFF, 0xFFFFFF), one(3, 0x8EA1A1, 0x8EFEFE), one(3, 0x010203, 0x010203),
	one(4, 0, 0), one(4, 0, 0xFFFFFFFF), one(4, 0xFFFFFFFF, 0xFFFFFFFF), one(4, 0x81308130, 0xFE39FE39), one(4, 0x8EA2A1A1, 0x8EA2FEFE), one(4, 0x7FFFFFFF, 0xFFFFFFFF), one(4, 0x80000000, 0x80000000),
}

// wrong are codespaces that may not be.
var wrong = []api.Rect{
	{}, one(0, 0, 0), one(0, 0, 1), one(0, 1, 1), one(-1, 0, 0), one(-1, 5, 9), one(5, 0, 0), one(5, 0, 0xFFFFFFFFFF), one(5, 5, 9),
	one(math.MinInt, 0, 0), one(math.MaxInt, 0, 0), one(1<<32+1, 5, 9), one(-4, 0, 0xFF),
	one(1, 0, 0x100), one(1, 0x100, 0x100), one(1, -1, 0), one(1, -1, -1), one(1, 0, -1), one(1, 6, 5), one(1, 0xFF, 0), one(1, 0x105, 0x109), one(1, 300, 301),
	one(2, 0, 0x10000), one(2, 0x10000, 0x10000), one(2, -1, 0xFFFF), one(2, 0x0080, 0x0170), one(2, 0x8140, 0x9F3F), one(2, 0x8140, 0x80FC), one(2, 0x0001, 0x0100),
	one(3, 0, 0x1000000), one(3, 0x1000000, 0x1000000), one(3, -1, 0), one(3, 0x010203, 0x020103), one(3, 0x010203, 0x020302), one(3, 0x010203, 0x000303),
	one(4, 0, 0x100000000), one(4, 0x100000000, 0x100000000), one(4, -1, 0xFFFFFFFF), one(4, math.MinInt, math.MaxInt), one(4, 0, math.MaxInt), one(4, math.MinInt, 0),
	one(4, 0x01020304, 0x02010304), one(4, 0x01020304, 0x02030204), one(4, 0x01020304, 0x02030403), one(4, 0x01020304, 0x00FFFFFF),
}

// P6.1
func TestSane(t *testing.T) {
	for _, r := range saneEdges {
		if !Sane(r) {
			t.Errorf("Sane(%v) = false", r)
		}
	}
	for _, r := range wrong {
		if Sane(r) {
			t.Errorf("Sane(%v) = true", r)
		}
	}
}

// P6.1: the bounds of each number of bytes.
func TestSaneBounds(t *testing.T) {
	for n := 1; n <= 4; n++ {
		top := greatest[n]
		for _, x := range []struct {
			lo, hi int
			want   bool
		}{
			{0, 0, true}, {0, top, true}, {top, top, true}, {0, top + 1, false}, {top + 1, top + 1, false}, {top, top + 1, false},
			{-1, 0, false}, {-1, top, false}, {0, -1, false}, {-1, -1, false}, {top, 0, false}, {1, 0, false},
		} {
			if got := Sane(one(n, x.lo, x.hi)); got != x.want {
				t.Errorf("Sane of %d bytes, %X to %X = %v", n, x.lo, x.hi, got)
			}
		}
	}
}

// P6.1: one byte above at each place, whatever the others are.
func TestSaneEachByte(t *testing.T) {
	for n := 1; n <= 4; n++ {
		for place := range n {
			for _, x := range []struct {
				lo, hi byte
				want   bool
			}{{7, 7, true}, {7, 8, true}, {8, 7, false}, {255, 0, false}, {0, 255, true}, {128, 127, false}, {127, 128, true}} {
				for _, rest := range []byte{7, 9, 255} {
					lo, hi := slices.Repeat([]byte{7}, n), slices.Repeat([]byte{rest}, n)
					lo[place], hi[place] = x.lo, x.hi
					r := ofBytes(lo, hi)
					if got := Sane(r); got != x.want {
						t.Errorf("Sane of %X to %X = %v", lo, hi, got)
					}
				}
			}
		}
	}
}

// P6.1: all numbers at the edges.
func TestSaneOdd(t *testing.T) {
	for _, r := range oddRects() {
		if got := Sane(r); got != plainSane(r) {
			t.Errorf("Sane(%v) = %v", r, got)
		}
	}
}

// P6.1: what the other calls tell of one that is not Sane.
func TestWrong(t *testing.T) {
	codes := oddCodes()
	texts := [][]byte{nil, {}, {0}, {5}, {5, 5}, {0, 0x90, 0, 0, 0}, {1, 2, 3, 4}, {0x85, 0x50}}
	rects := slices.DeleteFunc(oddRects(), plainSane)
	for _, r := range slices.Concat(wrong, rects) {
		for _, c := range codes {
			if In(r, c) {
				t.Fatalf("In(%v, %v) = true", r, c)
			}
		}
		for _, v := range []int{r.Lo, r.Hi} {
			if In(r, api.Code{N: r.N, V: v}) {
				t.Fatalf("In(%v, its own %d) = true", r, v)
			}
		}
		for _, b := range texts {
			if n := Fits(r, b); n != 0 {
				t.Fatalf("Fits(%v, %X) = %d", r, b, n)
			}
		}
		if n := Size(r); n != 0 {
			t.Fatalf("Size(%v) = %d", r, n)
		}
		for _, k := range []int{math.MinInt, -1, 0, 1, math.MaxInt} {
			checkNth(t, r, k, api.Code{}, false)
		}
		if l := Canon([]api.Rect{r}); len(l) != 0 {
			t.Fatalf("Canon of %v alone = %v", r, l)
		}
		for _, s := range slices.Concat(saneEdges, wrong, []api.Rect{r}) {
			if Holds(r, s) || Holds(s, r) {
				t.Fatalf("one of %v, %v holds the other one", r, s)
			}
		}
	}
}

func checkIn(t *testing.T, r api.Rect, c api.Code, want bool) {
	t.Helper()
	if got := In(r, c); got != want {
		t.Errorf("In(%d %X %X, %d %X) = %v", r.N, r.Lo, r.Hi, c.N, c.V, got)
	}
}

// P6.2
func TestIn(t *testing.T) {
	r := one(2, 0x8140, 0x9FFC)
	for _, v := range []int{0x8140, 0x81FC, 0x9F40, 0x9FFC, 0x8550, 0x9041} {
		checkIn(t, r, api.Code{N: 2, V: v}, true)
	}
	for _, v := range []int{0x8520, 0x853F, 0x85FD, 0x8040, 0x80FC, 0xA040, 0xA0FC, 0x813F, 0x81FD, 0x9F3F, 0x9FFD, 0x0041, 0, 0xFFFF} {
		checkIn(t, r, api.Code{N: 2, V: v}, false)
	}
	for _, c := range []api.Code{
		{}, {N: 1, V: 0x85}, {N: 3, V: 0x8550}, {N: 4, V: 0x8550}, {N: 3, V: 0x855050}, {N: 0, V: 0x8550}, {N: -2, V: 0x8550}, {N: 5, V: 0x8550},
		{N: 2, V: 0x8550 + 0x10000}, {N: 2, V: 0x8550 - 0x10000}, {N: 2, V: 0x8550 + 1<<32}, {N: 2, V: -1}, {N: 2, V: math.MinInt}, {N: 2, V: math.MaxInt},
	} {
		checkIn(t, r, c, false)
	}
}

// P6.2: a code of the same number, of another number of bytes.
func TestInOtherNs(t *testing.T) {
	for n := 1; n <= 4; n++ {
		for m := -1; m <= 6; m++ {
			checkIn(t, one(n, 0, 0x50), api.Code{N: m, V: 0x41}, m == n)
			checkIn(t, one(n, 0, greatest[n]), api.Code{N: m, V: 0}, m == n)
		}
		for _, v := range []int{-1, math.MinInt, -greatest[n], greatest[n] + 1, greatest[n] * 2, math.MaxInt} {
			checkIn(t, one(n, 0, greatest[n]), api.Code{N: n, V: v}, false)
		}
		checkIn(t, one(n, 0, greatest[n]), api.Code{N: n, V: greatest[n]}, true)
	}
}

// someBounds are bounds of each place, no two of them the same, so that one taken for another is seen.
var someBounds = struct{ lo, hi []byte }{[]byte{0x81, 0x30, 0x02, 0x40}, []byte{0xFE, 0x39, 0x7F, 0xFC}}

// P6.2: each bound of each byte, and one beyond it, with the others at each of theirs.
func TestInEachBound(t *testing.T) {
	for n := 1; n <= 4; n++ {
		lo, hi := someBounds.lo[:n], someBounds.hi[:n]
		r := ofBytes(lo, hi)
		for _, rest := range [][]byte{lo, hi} {
			for place := range n {
				for _, x := range []struct {
					b    byte
					want bool
				}{{lo[place], true}, {hi[place], true}, {lo[place] + 1, true}, {hi[place] - 1, true}, {lo[place] - 1, false}, {hi[place] + 1, false}, {0, false}, {255, false}} {
					b := slices.Clone(rest)
					b[place] = x.b
					checkIn(t, r, codeOf(b), x.want)
				}
			}
		}
	}
}

// P6.2: all codes of one byte, and of two.
func TestInAll(t *testing.T) {
	for _, r := range saneEdges {
		if r.N > 2 {
			continue
		}
		for v := range greatest[r.N] + 1 {
			c := api.Code{N: r.N, V: v}
			checkIn(t, r, c, plainIn(r, c))
		}
	}
}

// P6.2: all numbers at the edges.
func TestInOdd(t *testing.T) {
	codes := oddCodes()
	for _, r := range slices.Concat(oddRects(), saneEdges, wrong) {
		for _, c := range codes {
			if got := In(r, c); got != plainIn(r, c) {
				t.Fatalf("In(%v, %v) = %v", r, c, got)
			}
		}
	}
}

func checkFits(t *testing.T, r api.Rect, b []byte, want int) {
	t.Helper()
	if got := Fits(r, b); got != want {
		t.Errorf("Fits(%d %X %X, %X) = %d, want %d", r.N, r.Lo, r.Hi, b, got, want)
	}
}

// P6.2
func TestFits(t *testing.T) {
	r := one(2, 0x8140, 0x9FFC)
	for _, x := range []struct {
		b    []byte
		want int
	}{
		{nil, 0}, {[]byte{}, 0}, {[]byte{0x81}, 1}, {[]byte{0x9F}, 1}, {[]byte{0x80}, 0}, {[]byte{0xA0}, 0},
		{[]byte{0x81, 0x40}, 2}, {[]byte{0x9F, 0xFC}, 2}, {[]byte{0x81, 0x3F}, 1}, {[]byte{0x9F, 0xFD}, 1}, {[]byte{0x80, 0x40}, 0}, {[]byte{0x40, 0x81}, 0},
		{[]byte{0x81, 0x40, 9}, 2}, {[]byte{0x81, 0x40, 0x81, 0x40}, 2}, {[]byte{0x81, 0x3F, 0x81, 0x40}, 1}, {[]byte{0x80, 0x81, 0x40}, 0},
	} {
		checkFits(t, r, x.b, x.want)
	}
}

// P6.2: from no bytes to more than N, with the first one that is out at each place, below and above; what stands behind it does not count.
func TestFitsEachPlace(t *testing.T) {
	for n := 1; n <= 4; n++ {
		lo, hi := someBounds.lo[:n], someBounds.hi[:n]
		r := ofBytes(lo, hi)
		for _, rest := range [][]byte{lo, hi} {
			for many := 0; many <= n+3; many++ {
				b := slices.Concat(rest, []byte{0x81, 0, 0xFF})[:many]
				checkFits(t, r, b, min(many, n))
				for place := range min(many, n) {
					for _, out := range []byte{lo[place] - 1, hi[place] + 1} {
						b[place] = out
						checkFits(t, r, b, place)
					}
					b[place] = rest[place]
				}
				for place := n; place < many; place++ {
					b[place]++
					checkFits(t, r, b, n)
				}
			}
		}
	}
}

// P6.2: all bytes at each place of all codes, and many of them.
func TestFitsWide(t *testing.T) {
	long := make([]byte, 100000)
	for n := 1; n <= 4; n++ {
		checkFits(t, one(n, 0, greatest[n]), long, n)
		checkFits(t, one(n, greatest[n], greatest[n]), long, 0)
		for b := range 256 {
			checkFits(t, one(n, 0, greatest[n]), slices.Repeat([]byte{byte(b)}, n), n)
		}
	}
}

// P6.2: a code is in one just if all of its bytes fit.
func TestFitsIn(t *testing.T) {
	rnd := rand.New(rand.NewSource(62))
	for range 20000 {
		r := someRect(rnd, 1+rnd.Intn(4), 255)
		b := make([]byte, rnd.Intn(6))
		rnd.Read(b)
		checkFits(t, r, b, plainFits(r, b))
		if len(b) == r.N {
			checkIn(t, r, codeOf(b), Fits(r, b) == r.N)
		}
	}
}

// P6.3
func TestSize(t *testing.T) {
	for _, x := range []struct {
		r    api.Rect
		want int
	}{
		{one(2, 0x8140, 0x9FFC), 31 * 189}, {one(1, 5, 5), 1}, {one(2, 0x8140, 0x8140), 1}, {one(3, 0x8EA1A1, 0x8EA1A1), 1}, {one(4, 0xFFFFFFFF, 0xFFFFFFFF), 1}, {one(4, 0, 0), 1},
		{one(1, 0, 0xFF), 1 << 8}, {one(2, 0, 0xFFFF), 1 << 16}, {one(3, 0, 0xFFFFFF), 1 << 24}, {one(4, 0, 0xFFFFFFFF), 1 << 32},
		{one(1, 0, 1), 2}, {one(2, 0, 0x0101), 4}, {one(2, 0x0100, 0x01FF), 256}, {one(2, 0x00FF, 0xFFFF), 256}, {one(2, 0, 0x0100), 2},
		{one(3, 0x010203, 0x020406), 2 * 3 * 4}, {one(4, 0x81308130, 0xFE39FE39), 126 * 10 * 126 * 10},
	} {
		if got := Size(x.r); got != x.want {
			t.Errorf("Size(%v) = %d, want %d", x.r, got, x.want)
		}
	}
	for _, r := range slices.Concat(oddRects(), saneEdges) {
		if got := Size(r); got != plainSize(r) {
			t.Errorf("Size(%v) = %d, want %d", r, got, plainSize(r))
		}
	}
}

func checkNth(t *testing.T, r api.Rect, k int, want api.Code, ok bool) {
	t.Helper()
	if got, gotOK := Nth(r, k); got != want || gotOK != ok {
		t.Fatalf("Nth(%v, %d) = %v, %v, want %v, %v", r, k, got, gotOK, want, ok)
	}
}

// P6.3
func TestNth(t *testing.T) {
	for _, x := range []struct {
		r    api.Rect
		k, v int
	}{
		{one(2, 0x8140, 0x9FFC), 0, 0x8140}, {one(2, 0x8140, 0x9FFC), 1, 0x8141}, {one(2, 0x8140, 0x9FFC), 188, 0x81FC}, {one(2, 0x8140, 0x9FFC), 189, 0x8240}, {one(2, 0x8140, 0x9FFC), 31*189 - 1, 0x9FFC},
		{one(1, 5, 9), 3, 8}, {one(3, 0x010203, 0x020406), 0, 0x010203}, {one(3, 0x010203, 0x020406), 4, 0x010303}, {one(3, 0x010203, 0x020406), 12, 0x020203}, {one(3, 0x010203, 0x020406), 23, 0x020406},
		{one(4, 0x81308130, 0xFE39FE39), 10, 0x81308230}, {one(4, 0x81308130, 0xFE39FE39), 1260, 0x81318130}, {one(4, 0x81308130, 0xFE39FE39), 12600, 0x82308130},
		{one(4, 0, 0xFFFFFFFF), 0x80000000, 0x80000000}, {one(4, 0, 0xFFFFFFFF), 0x12345678, 0x12345678},
	} {
		checkNth(t, x.r, x.k, api.Code{N: x.r.N, V: x.v}, true)
	}
}

// P6.3: the least and the greatest one, and one beyond each.
func TestNthEnds(t *testing.T) {
	for _, r := range slices.Concat(saneEdges, slices.DeleteFunc(oddRects(), func(r api.Rect) bool { return !plainSane(r) })) {
		n := plainSize(r)
		checkNth(t, r, 0, api.Code{N: r.N, V: r.Lo}, true)
		checkNth(t, r, n-1, api.Code{N: r.N, V: r.Hi}, true)
		for _, k := range []int{n, n + 1, -1, -n, n + 1<<32, math.MaxInt, math.MinInt} {
			checkNth(t, r, k, api.Code{}, false)
		}
	}
	for n := 1; n <= 4; n++ {
		all := one(n, 0, greatest[n])
		for k := 0; k <= greatest[n]; k += 1 + greatest[n]/1009 {
			checkNth(t, all, k, api.Code{N: n, V: k}, true)
		}
		checkNth(t, all, greatest[n], api.Code{N: n, V: greatest[n]}, true)
		checkNth(t, all, greatest[n]+1, api.Code{}, false)
	}
}

// P6.3: of 1 and 2 bytes, each Nth is the one that so many others are below.
func TestNthAll(t *testing.T) {
	rnd := rand.New(rand.NewSource(63))
	for i := range 200 {
		r := someRect(rnd, 1+i%2, 255)
		l := plainCodes(r)
		if n := Size(r); n != len(l) {
			t.Fatalf("Size(%v) = %d, want %d", r, n, len(l))
		}
		for k, c := range l {
			checkNth(t, r, k, c, true)
		}
	}
}

// P6.3: each Nth is in the codespace, and below the next one.
func TestNthRises(t *testing.T) {
	rnd := rand.New(rand.NewSource(64))
	for i := range 4000 {
		r := someRect(rnd, 1+i%4, 255)
		n := Size(r)
		last := api.Code{N: r.N, V: -1}
		k := max(0, rnd.Intn(n)-300)
		for end := min(n, k+600); k < end; k++ {
			c, ok := Nth(r, k)
			if !ok || c.V <= last.V || !plainIn(r, c) {
				t.Fatalf("Nth(%v, %d) = %v, %v, behind %v", r, k, c, ok, last)
			}
			last = c
		}
	}
}

func checkHolds(t *testing.T, a, b api.Rect, want bool) {
	t.Helper()
	if got := Holds(a, b); got != want {
		t.Errorf("Holds(%d %X %X, %d %X %X) = %v", a.N, a.Lo, a.Hi, b.N, b.Lo, b.Hi, got)
	}
}

// P6.3
func TestHolds(t *testing.T) {
	r := one(2, 0x8140, 0x9FFC)
	for _, x := range []struct {
		b    api.Rect
		want bool
	}{
		{r, true}, {one(2, 0x8250, 0x9060), true}, {one(2, 0x8140, 0x8140), true}, {one(2, 0x9FFC, 0x9FFC), true}, {one(2, 0x8140, 0x81FC), true}, {one(2, 0x9F40, 0x9FFC), true},
		{one(2, 0x8040, 0x9FFC), false}, {one(2, 0x813F, 0x9FFC), false}, {one(2, 0x8140, 0xA0FC), false}, {one(2, 0x8140, 0x9FFD), false},
		{one(2, 0x8230, 0x9060), false}, {one(2, 0x8250, 0x90FD), false}, {one(2, 0, 0xFFFF), false}, {one(2, 0xA040, 0xA0FC), false},
		{one(1, 0x85, 0x86), false}, {one(3, 0x8250, 0x9060), false}, {one(3, 0x825050, 0x906060), false}, {one(2, 0x9060, 0x8250), false}, {one(2, 0x8260, 0x9050), false},
	} {
		checkHolds(t, r, x.b, x.want)
	}
	for _, a := range saneEdges {
		checkHolds(t, a, a, true)
		checkHolds(t, one(a.N, 0, greatest[a.N]), a, true)
		checkHolds(t, a, one(a.N, 0, greatest[a.N]), a == one(a.N, 0, greatest[a.N]))
		for n := -1; n <= 6; n++ {
			checkHolds(t, a, one(n, a.Lo, a.Hi), n == a.N)
			checkHolds(t, one(n, a.Lo, a.Hi), a, n == a.N)
		}
	}
}

// P6.3: one bound of one byte out, at each place, below and above.
func TestHoldsEachByte(t *testing.T) {
	for n := 1; n <= 4; n++ {
		for place := range n {
			a := ofBytes(someBounds.lo[:n], someBounds.hi[:n])
			lo, hi := slices.Clone(someBounds.lo[:n]), slices.Clone(someBounds.hi[:n])
			lo[place]--
			wider := ofBytes(lo, hi)
			checkHolds(t, a, wider, false)
			checkHolds(t, wider, a, true)
			lo[place] += 2
			checkHolds(t, a, ofBytes(lo, hi), true)
			checkHolds(t, ofBytes(lo, hi), a, false)
			lo[place]--
			hi[place]++
			wider = ofBytes(lo, hi)
			checkHolds(t, a, wider, false)
			checkHolds(t, wider, a, true)
			hi[place] -= 2
			checkHolds(t, a, ofBytes(lo, hi), true)
			checkHolds(t, ofBytes(lo, hi), a, false)
		}
	}
}

// P6.3: by the words themselves, each code that is in the one is in the other one.
func TestHoldsCodes(t *testing.T) {
	rnd := rand.New(rand.NewSource(65))
	for i := range 3000 {
		a, b := someRect(rnd, 1+i%2, 6), someRect(rnd, 1+i%2, 6)
		out := slices.ContainsFunc(plainCodes(b), func(c api.Code) bool { return !plainIn(a, c) })
		checkHolds(t, a, b, !out)
	}
	for i := range 30000 {
		a, b := someRect(rnd, 1+i%4, 3), someRect(rnd, 1+rnd.Intn(4), 3)
		checkHolds(t, a, b, plainHolds(a, b))
	}
}

func checkCanon(t *testing.T, l, want []api.Rect) {
	t.Helper()
	kept := slices.Clone(l)
	got := Canon(l)
	if !slices.Equal(got, want) {
		t.Fatalf("Canon(%v) = %v, want %v", kept, got, want)
	}
	if !slices.Equal(l, kept) {
		t.Fatalf("Canon changed %v to %v", kept, l)
	}
	if again := Canon(got); !slices.Equal(again, want) {
		t.Fatalf("Canon of the Canon %v = %v", got, again)
	}
}

// canons are lists and what they come to; in each order of the list.
var canons = []struct{ l, want []api.Rect }{
	{nil, nil},
	{[]api.Rect{}, nil},
	{[]api.Rect{one(1, 5, 9)}, []api.Rect{one(1, 5, 9)}},
	// that are not Sane, alone, and beside others
	{[]api.Rect{one(1, 9, 5), one(5, 0, 0), one(1, 300, 301), {}}, nil},
	{[]api.Rect{one(1, 9, 5), one(1, 5, 9), one(5, 0, 0)}, []api.Rect{one(1, 5, 9)}},
	{[]api.Rect{one(2, 0x0080, 0x0170), one(2, 0x0090, 0x0090)}, []api.Rect{one(2, 0x0090, 0x0090)}},
	{[]api.Rect{one(1, -1, 256), one(1, 0, 256), one(1, -1, 255), one(1, 5, 9)}, []api.Rect{one(1, 5, 9)}},
	{[]api.Rect{one(4, 0, 1<<32), one(4, math.MinInt, math.MaxInt), one(4, 7, 7)}, []api.Rect{one(4, 7, 7)}},
	// the same one, some times
	{[]api.Rect{one(1, 5, 9), one(1, 5, 9)}, []api.Rect{one(1, 5, 9)}},
	{[]api.Rect{one(1, 5, 9), one(1, 5, 9), one(1, 5, 9)}, []api.Rect{one(1, 5, 9)}},
	{[]api.Rect{one(2, 5, 9), one(1, 5, 9), one(2, 5, 9), one(1, 5, 9)}, []api.Rect{one(1, 5, 9), one(2, 5, 9)}},
	{[]api.Rect{one(1, 9, 5), one(1, 9, 5), one(1, 9, 5)}, nil},
	// that another one holds: within, with the same Lo, with the same Hi
	{[]api.Rect{one(1, 5, 9), one(1, 0, 255)}, []api.Rect{one(1, 0, 255)}},
	{[]api.Rect{one(1, 5, 9), one(1, 5, 10)}, []api.Rect{one(1, 5, 10)}},
	{[]api.Rect{one(1, 5, 9), one(1, 4, 9)}, []api.Rect{one(1, 4, 9)}},
	{[]api.Rect{one(1, 5, 9), one(1, 5, 9), one(1, 0, 255)}, []api.Rect{one(1, 0, 255)}},
	{[]api.Rect{one(1, 5, 9), one(1, 5, 12), one(1, 4, 6)}, []api.Rect{one(1, 4, 6), one(1, 5, 12)}},
	{[]api.Rect{one(2, 0x0000, 0x10FF), one(2, 0x0040, 0x0550)}, []api.Rect{one(2, 0x0000, 0x10FF)}},
	{[]api.Rect{one(1, 0, 9), one(1, 3, 3), one(1, 5, 5), one(1, 9, 9)}, []api.Rect{one(1, 0, 9)}},
	// the one that holds stands far ahead, with others between
	{[]api.Rect{one(2, 0x0000, 0xF0F0), one(2, 0x0100, 0x0101), one(2, 0x0200, 0x02FF), one(2, 0x0300, 0x03FF), one(2, 0x0500, 0x0505)}, []api.Rect{one(2, 0x0000, 0xF0F0), one(2, 0x0200, 0x02FF), one(2, 0x0300, 0x03FF)}},
	// the one that holds has the same Lo, with others between
	{[]api.Rect{one(2, 0x0000, 0x0305), one(2, 0x0000, 0x0400), one(2, 0x0000, 0x0501), one(2, 0x0000, 0x0607)}, []api.Rect{one(2, 0x0000, 0x0607)}},
	{[]api.Rect{one(2, 0x0000, 0x0305), one(2, 0x0000, 0x0400), one(2, 0x0000, 0x0501), one(2, 0x0000, 0x0605)}, []api.Rect{one(2, 0x0000, 0x0605)}},
	{[]api.Rect{one(2, 0x0000, 0x0305), one(2, 0x0000, 0x0404), one(2, 0x0000, 0x0503), one(2, 0x0000, 0x0705)}, []api.Rect{one(2, 0x0000, 0x0705)}},
	{[]api.Rect{one(2, 0x0000, 0x0305), one(2, 0x0000, 0x0400), one(2, 0x0000, 0x0503), one(2, 0x0000, 0x0604)}, []api.Rect{one(2, 0x0000, 0x0305), one(2, 0x0000, 0x0604)}},
	// a row of ones that hold each other
	{[]api.Rect{one(1, 4, 4), one(1, 3, 5), one(1, 2, 6), one(1, 1, 7), one(1, 0, 8)}, []api.Rect{one(1, 0, 8)}},
	{[]api.Rect{one(2, 0x0404, 0x0404), one(2, 0x0304, 0x0404), one(2, 0x0304, 0x0405), one(2, 0x0303, 0x0405)}, []api.Rect{one(2, 0x0303, 0x0405)}},
	// that meet, or stand side by side, and do not hold each other
	{[]api.Rect{one(1, 5, 9), one(1, 7, 12)}, []api.Rect{one(1, 5, 9), one(1, 7, 12)}},
	{[]api.Rect{one(1, 5, 9), one(1, 10, 12)}, []api.Rect{one(1, 5, 9), one(1, 10, 12)}},
	{[]api.Rect{one(1, 5, 9), one(1, 9, 12)}, []api.Rect{one(1, 5, 9), one(1, 9, 12)}},
	{[]api.Rect{one(1, 0, 5), one(1, 3, 9), one(1, 2, 7)}, []api.Rect{one(1, 0, 5), one(1, 2, 7), one(1, 3, 9)}}, // two hold one together, but none alone
	{[]api.Rect{one(2, 0x0000, 0xFF10), one(2, 0x0510, 0x0620)}, []api.Rect{one(2, 0x0000, 0xFF10), one(2, 0x0510, 0x0620)}},
	{[]api.Rect{one(2, 0x0000, 0x10FF), one(2, 0x0000, 0xFF10)}, []api.Rect{one(2, 0x0000, 0x10FF), one(2, 0x0000, 0xFF10)}},
	{[]api.Rect{one(2, 0x0010, 0xFF20), one(2, 0x0100, 0x01FF), one(2, 0x0110, 0x0120)}, []api.Rect{one(2, 0x0010, 0xFF20), one(2, 0x0100, 0x01FF)}},
	// in order by N, whatever Lo and Hi are
	{[]api.Rect{one(2, 0x8140, 0x9FFC), one(1, 0, 0x80)}, []api.Rect{one(1, 0, 0x80), one(2, 0x8140, 0x9FFC)}},
	{[]api.Rect{one(4, 0, 0), one(3, 1, 1), one(2, 2, 2), one(1, 3, 3)}, []api.Rect{one(1, 3, 3), one(2, 2, 2), one(3, 1, 1), one(4, 0, 0)}},
	{[]api.Rect{one(1, 0xFF, 0xFF), one(2, 0, 0xFFFF), one(3, 0xFFFFFF, 0xFFFFFF), one(4, 0, 1)}, []api.Rect{one(1, 0xFF, 0xFF), one(2, 0, 0xFFFF), one(3, 0xFFFFFF, 0xFFFFFF), one(4, 0, 1)}},
	{[]api.Rect{one(1, 5, 9), one(2, 5, 9), one(3, 5, 9), one(4, 5, 9)}, []api.Rect{one(1, 5, 9), one(2, 5, 9), one(3, 5, 9), one(4, 5, 9)}},
	// then by Lo, whatever Hi is
	{[]api.Rect{one(2, 0x0105, 0x0206), one(2, 0x0000, 0x0303)}, []api.Rect{one(2, 0x0000, 0x0303), one(2, 0x0105, 0x0206)}},
	{[]api.Rect{one(2, 0x0201, 0x0505), one(2, 0x0102, 0x0606), one(2, 0x0003, 0x0707)}, []api.Rect{one(2, 0x0003, 0x0707), one(2, 0x0102, 0x0606), one(2, 0x0201, 0x0505)}},
	{[]api.Rect{one(4, 0xFFFFFFFF, 0xFFFFFFFF), one(4, 0xFFFFFFFE, 0xFFFFFFFE), one(4, 0xFFFFFFFD, 0xFFFFFFFD)}, []api.Rect{one(4, 0xFFFFFFFD, 0xFFFFFFFD), one(4, 0xFFFFFFFE, 0xFFFFFFFE), one(4, 0xFFFFFFFF, 0xFFFFFFFF)}},
	// then by Hi
	{[]api.Rect{one(2, 0x0000, 0x0503), one(2, 0x0000, 0x0404), one(2, 0x0000, 0x0305)}, []api.Rect{one(2, 0x0000, 0x0305), one(2, 0x0000, 0x0404), one(2, 0x0000, 0x0503)}},
	{[]api.Rect{one(4, 0, 0xFFFFFEFF), one(4, 0, 0xFFFFFFFE), one(4, 0, 0xFEFFFFFF)}, []api.Rect{one(4, 0, 0xFEFFFFFF), one(4, 0, 0xFFFFFEFF), one(4, 0, 0xFFFFFFFE)}},
	{[]api.Rect{one(2, 0, 0x0201), one(2, 0, 0x0102), one(1, 7, 7), one(2, 3, 0x0103), one(1, 5, 5)}, []api.Rect{one(1, 5, 5), one(1, 7, 7), one(2, 0, 0x0102), one(2, 0, 0x0201), one(2, 3, 0x0103)}},
}

// P6.4
func TestCanon(t *testing.T) {
	for _, x := range canons {
		orders(x.l, func(l []api.Rect) { checkCanon(t, l, x.want) })
	}
}

// P6.4: one that holds another one, each ahead of the other one, beside all of the same and of other numbers of bytes.
func TestCanonHolds(t *testing.T) {
	for _, a := range saneEdges {
		for _, b := range saneEdges {
			want := []api.Rect{a, b}
			switch {
			case a == b || plainHolds(a, b):
				want = []api.Rect{a}
			case plainHolds(b, a):
				want = []api.Rect{b}
			case plainOrder(a, b) > 0:
				want = []api.Rect{b, a}
			}
			checkCanon(t, []api.Rect{a, b}, want)
			checkCanon(t, []api.Rect{b, a}, want)
			checkCanon(t, []api.Rect{b, a, wrong[4], a, b, wrong[9], b}, want)
		}
	}
}

// P6.4: lists of any kind, with many that hold each other, and some that are not Sane.
func TestCanonSome(t *testing.T) {
	rnd := rand.New(rand.NewSource(66))
	for range 20000 {
		most := []int{2, 3, 6, 255}[rnd.Intn(4)]
		ns := 1 + rnd.Intn(4)
		var l []api.Rect
		for range rnd.Intn(30) {
			switch rnd.Intn(10) {
			case 0:
				l = append(l, wrong[rnd.Intn(len(wrong))])
			case 1:
				l = append(l, saneEdges[rnd.Intn(len(saneEdges))])
			default:
				l = append(l, someRect(rnd, 1+rnd.Intn(ns), most))
			}
		}
		checkCanon(t, l, plainCanon(l))
	}
}

// P6.4: all numbers at the edges, in one list.
func TestCanonOdd(t *testing.T) {
	l := oddRects()
	checkCanon(t, l, plainCanon(l))
	slices.Reverse(l)
	checkCanon(t, l, plainCanon(l))
	checkCanon(t, wrong, nil)
}

// P6.4: what is answered is new: the list may be changed behind the call.
func TestCanonIsNew(t *testing.T) {
	l := []api.Rect{one(1, 5, 9), one(2, 5, 9), one(3, 5, 9)}
	want := slices.Clone(l)
	got := Canon(l)
	clear(l)
	if !slices.Equal(got, want) {
		t.Error("Canon shares what it was given:", got)
	}
}

// P6.5: a code is in one of a Canon just if it is in one of the list.
func TestFollows(t *testing.T) {
	rnd := rand.New(rand.NewSource(67))
	some := func(l []api.Rect, c api.Code) bool {
		return slices.ContainsFunc(l, func(r api.Rect) bool { return In(r, c) })
	}
	for i := range 400 {
		var l []api.Rect
		for range rnd.Intn(12) {
			l = append(l, someRect(rnd, 1+rnd.Intn(3), 9))
		}
		if i%3 == 0 {
			l = append(l, wrong...)
		}
		rnd.Shuffle(len(l), func(i, j int) { l[i], l[j] = l[j], l[i] })
		canon := Canon(l)
		for n := 1; n <= 3; n++ {
			all := one(n, 0, []int{0, 0xA, 0xA0A, 0xA0A0A}[n])
			for k := range Size(all) {
				c, _ := Nth(all, k)
				if some(l, c) != some(canon, c) {
					t.Fatalf("%v is in one alone of %v, %v", c, l, canon)
				}
			}
		}
		if again := Canon(canon); !slices.Equal(again, canon) {
			t.Fatalf("Canon of the Canon %v = %v", canon, again)
		}
	}
}

// P1: long lists, of ones apart and of ones in one another.
func TestLong(t *testing.T) {
	var apart, within []api.Rect
	for v := range 1 << 16 {
		apart = append(apart, one(3, v*256, v*256+9))
		within = append(within, one(4, v, 0xFFFFFFFF))
	}
	back := slices.Clone(apart)
	slices.Reverse(back)
	checkCanon(t, back, apart)
	checkCanon(t, slices.Concat(apart, back, apart), apart)
	checkCanon(t, within, within[:1])
	slices.Reverse(within)
	checkCanon(t, within, within[len(within)-1:])
}

// numbers are those of four bytes each, some of which are out of range.
func numbers(b []byte) (l []int) {
	for ; len(b) >= 4; b = b[4:] {
		l = append(l, int(binary.BigEndian.Uint32(b)))
	}
	return l
}

// P6.1 to P6.5 and P1 at bytes of any kind.
func FuzzBytes(f *testing.F) {
	f.Add([]byte{2, 0, 0, 0x81, 0x40, 0, 0, 0x9F, 0xFC, 2, 0, 0, 0x82, 0x50, 0, 0, 0x90, 0x60}, []byte{0x85, 0x50}, 5)
	f.Add([]byte{1, 0, 0, 0, 5, 0, 0, 0, 9, 1, 0, 0, 0, 0, 0, 0, 0, 255}, []byte{7}, -1)
	f.Add([]byte{5, 0, 0, 0, 5, 0, 0, 0, 9}, []byte{}, 1<<32)
	f.Fuzz(func(t *testing.T, b, text []byte, k int) {
		var l []api.Rect
		for ; len(b) >= 9; b = b[9:] {
			v := numbers(b[1:9])
			l = append(l, one(int(int8(b[0])), v[0], v[1]))
		}
		for _, r := range l {
			n := plainSize(r)
			if Sane(r) != plainSane(r) || Size(r) != n {
				t.Errorf("of %v: Sane %v, Size %d", r, Sane(r), Size(r))
			}
			checkFits(t, r, text, plainFits(r, text))
			if c, ok := Nth(r, k); ok != (k >= 0 && k < n) || ok && !plainIn(r, c) || !ok && c != (api.Code{}) {
				t.Errorf("Nth(%v, %d) = %v, %v", r, k, c, ok)
			}
			if c := (api.Code{N: r.N, V: k}); In(r, c) != plainIn(r, c) {
				t.Errorf("In(%v, %v) = %v", r, c, In(r, c))
			}
			for _, s := range l {
				checkHolds(t, r, s, plainHolds(r, s))
			}
		}
		checkCanon(t, l, plainCanon(l))
	})
}

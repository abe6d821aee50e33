package sem

import (
	"math"
	"math/rand"
	"testing"

	"hornbook/api"
	"hornbook/syn"
)

// P9.1: the modes, by themselves, and with all else that may be, or may not.
func TestSaneMode(t *testing.T) {
	for _, mode := range []int{math.MinInt, -1 << 32, -2, -1, 0, 1, 2, 3, 256, 1 << 32, 1<<32 + 1, math.MaxInt} {
		may := mode == 0 || mode == 1
		checkSane(t, Table{Wmode: mode}, may)
		checkSane(t, Table{Name: "WMode", Wmode: mode}, may)
		tab := full()
		tab.Wmode = mode
		checkSane(t, tab, may)
		tab = spoiled()
		tab.Wmode = mode
		checkSane(t, tab, false)
	}
}

// P9.1: any name may be.
func TestSaneName(t *testing.T) {
	for _, name := range []string{"", "A", "A b", "\x00", "\xff\xfe", "Identity-H", "/", "<>"} {
		checkSane(t, Table{Name: name}, true)
		tab := full()
		tab.Name = name
		checkSane(t, tab, true)
	}
}

// Lists, and whether they may be.
var (
	saneSpaces = []struct {
		l    []api.Rect
		want bool
	}{
		{nil, true}, {[]api.Rect{}, true},
		{[]api.Rect{{N: 1}}, true}, {[]api.Rect{{N: 1, Lo: 0, Hi: 255}}, true}, {[]api.Rect{{N: 4, Lo: 0, Hi: 0xFFFFFFFF}}, true}, {[]api.Rect{{N: 2, Lo: 0x8140, Hi: 0x9FFC}}, true},
		// one that may not be, alone and beside another one
		{[]api.Rect{{}}, false}, {[]api.Rect{{N: -1}}, false}, {[]api.Rect{{N: 5}}, false}, {[]api.Rect{{N: 1, Lo: 9, Hi: 8}}, false}, {[]api.Rect{{N: 1, Lo: 0, Hi: 256}}, false}, {[]api.Rect{{N: 1, Lo: -1, Hi: 5}}, false}, {[]api.Rect{{N: 2, Lo: 0x8140, Hi: 0x9F20}}, false}, {[]api.Rect{{N: math.MinInt, Lo: math.MinInt, Hi: math.MaxInt}}, false},
		{[]api.Rect{{N: 1, Lo: 0, Hi: 5}, {N: 1, Lo: 9, Hi: 8}}, false}, {[]api.Rect{{}, {N: 1, Lo: 0, Hi: 5}}, false},
		// two in order, by N, Lo and Hi, and the other way about
		{[]api.Rect{{N: 1, Lo: 0, Hi: 5}, {N: 1, Lo: 7, Hi: 9}}, true}, {[]api.Rect{{N: 1, Lo: 7, Hi: 9}, {N: 1, Lo: 0, Hi: 5}}, false},
		{[]api.Rect{{N: 1, Lo: 7, Hi: 9}, {N: 2, Lo: 0, Hi: 5}}, true}, {[]api.Rect{{N: 2, Lo: 0, Hi: 5}, {N: 1, Lo: 7, Hi: 9}}, false},
		{[]api.Rect{{N: 2, Lo: 0, Hi: 0x0109}, {N: 2, Lo: 0, Hi: 0x0205}}, true}, {[]api.Rect{{N: 2, Lo: 0, Hi: 0x0205}, {N: 2, Lo: 0, Hi: 0x0109}}, false},
		// two side by side, and two that meet
		{[]api.Rect{{N: 1, Lo: 0, Hi: 5}, {N: 1, Lo: 6, Hi: 9}}, true}, {[]api.Rect{{N: 1, Lo: 0, Hi: 5}, {N: 1, Lo: 5, Hi: 9}}, true}, {[]api.Rect{{N: 1, Lo: 0, Hi: 7}, {N: 1, Lo: 5, Hi: 9}}, true},
		// two one of which holds the other, and the same one twice
		{[]api.Rect{{N: 1, Lo: 0, Hi: 5}, {N: 1, Lo: 0, Hi: 5}}, false}, {[]api.Rect{{N: 1, Lo: 0, Hi: 9}, {N: 1, Lo: 3, Hi: 5}}, false}, {[]api.Rect{{N: 1, Lo: 0, Hi: 5}, {N: 1, Lo: 0, Hi: 9}}, false}, {[]api.Rect{{N: 1, Lo: 0, Hi: 9}, {N: 1, Lo: 9, Hi: 9}}, false}, {[]api.Rect{{N: 1, Lo: 0, Hi: 9}, {N: 2, Lo: 3, Hi: 5}}, true},
	}
	saneCids = []struct {
		l    []api.Span
		want bool
	}{
		{nil, true}, {[]api.Span{}, true},
		{[]api.Span{{N: 1}}, true}, {[]api.Span{{N: 1, Lo: 0, Hi: 255, To: 65280}}, true}, {[]api.Span{{N: 2, Lo: 0, Hi: 65535}}, true}, {[]api.Span{{N: 4, Lo: 0xFFFFFFFF, Hi: 0xFFFFFFFF, To: 65535}}, true},
		{[]api.Span{{}}, false}, {[]api.Span{{N: 1, Lo: 5, Hi: 4}}, false}, {[]api.Span{{N: 1, Lo: 0, Hi: 256}}, false}, {[]api.Span{{N: 1, To: -1}}, false}, {[]api.Span{{N: 1, To: 65536}}, false}, {[]api.Span{{N: math.MaxInt, Lo: math.MinInt, Hi: math.MaxInt, To: math.MinInt}}, false},
		// how far it goes, with step
		{[]api.Span{{N: 1, Lo: 5, Hi: 6, To: 65534}}, true}, {[]api.Span{{N: 1, Lo: 5, Hi: 6, To: 65535}}, false}, {[]api.Span{{N: 4, Lo: 0, Hi: 0xFFFFFFFF}}, false},
		// two that would be one with step but not without, and the other way about
		{[]api.Span{{N: 1, Lo: 1, Hi: 1, To: 5}, {N: 1, Lo: 2, Hi: 2, To: 6}}, false}, {[]api.Span{{N: 1, Lo: 1, Hi: 4, To: 5}, {N: 1, Lo: 5, Hi: 9, To: 9}}, false},
		{[]api.Span{{N: 1, Lo: 1, Hi: 1, To: 5}, {N: 1, Lo: 2, Hi: 2, To: 5}}, true}, {[]api.Span{{N: 1, Lo: 1, Hi: 4, To: 5}, {N: 1, Lo: 5, Hi: 9, To: 5}}, true},
		// two in order, in the other one, and that meet
		{[]api.Span{{N: 1, Lo: 1, Hi: 4, To: 5}, {N: 1, Lo: 5, Hi: 9, To: 70}}, true}, {[]api.Span{{N: 1, Lo: 5, Hi: 9, To: 70}, {N: 1, Lo: 1, Hi: 4, To: 5}}, false}, {[]api.Span{{N: 1, Lo: 5, Hi: 9, To: 70}, {N: 2, Lo: 1, Hi: 4, To: 5}}, true}, {[]api.Span{{N: 2, Lo: 1, Hi: 4, To: 5}, {N: 1, Lo: 5, Hi: 9, To: 70}}, false},
		{[]api.Span{{N: 1, Lo: 1, Hi: 5, To: 5}, {N: 1, Lo: 5, Hi: 9, To: 70}}, false}, {[]api.Span{{N: 1, Lo: 1, Hi: 5, To: 5}, {N: 1, Lo: 1, Hi: 5, To: 5}}, false},
	}
	saneNots = []struct {
		l    []api.Span
		want bool
	}{
		{nil, true}, {[]api.Span{}, true},
		{[]api.Span{{N: 1}}, true}, {[]api.Span{{N: 1, Lo: 0, Hi: 255, To: 65535}}, true}, {[]api.Span{{N: 4, Lo: 0xFFFFFFFF, Hi: 0xFFFFFFFF, To: 65535}}, true},
		{[]api.Span{{}}, false}, {[]api.Span{{N: 1, Lo: 5, Hi: 4}}, false}, {[]api.Span{{N: 1, Lo: 0, Hi: 256}}, false}, {[]api.Span{{N: 1, To: -1}}, false}, {[]api.Span{{N: 1, To: 65536}}, false}, {[]api.Span{{N: math.MaxInt, Lo: math.MinInt, Hi: math.MaxInt, To: math.MinInt}}, false},
		// how far it goes is nothing, without step
		{[]api.Span{{N: 1, Lo: 5, Hi: 6, To: 65535}}, true}, {[]api.Span{{N: 4, Lo: 0, Hi: 0xFFFFFFFF, To: 65535}}, true},
		// two that would be one without step but not with, and the other way about
		{[]api.Span{{N: 1, Lo: 1, Hi: 1, To: 5}, {N: 1, Lo: 2, Hi: 2, To: 5}}, false}, {[]api.Span{{N: 1, Lo: 1, Hi: 4, To: 5}, {N: 1, Lo: 5, Hi: 9, To: 5}}, false},
		{[]api.Span{{N: 1, Lo: 1, Hi: 1, To: 5}, {N: 1, Lo: 2, Hi: 2, To: 6}}, true}, {[]api.Span{{N: 1, Lo: 1, Hi: 4, To: 5}, {N: 1, Lo: 5, Hi: 9, To: 9}}, true},
		{[]api.Span{{N: 1, Lo: 5, Hi: 9, To: 70}, {N: 1, Lo: 1, Hi: 4, To: 5}}, false}, {[]api.Span{{N: 1, Lo: 1, Hi: 5, To: 5}, {N: 1, Lo: 5, Hi: 9, To: 70}}, false}, {[]api.Span{{N: 2, Lo: 1, Hi: 4, To: 5}, {N: 1, Lo: 5, Hi: 9, To: 70}}, false},
	}
	saneBfs = []struct {
		l    []api.Bf
		want bool
	}{
		{nil, true}, {[]api.Bf{}, true},
		{[]api.Bf{bf(1, 0, 0, 0)}, true}, {[]api.Bf{bf(1, 0, 255, 65280)}, true}, {[]api.Bf{bf(2, 0, 65535, 0)}, true}, {[]api.Bf{bf(1, 5, 9, many(64, 7)...)}, true},
		{[]api.Bf{{}}, false}, {[]api.Bf{{N: 1}}, false}, {[]api.Bf{bf(1, 5, 4, 0)}, false}, {[]api.Bf{bf(1, 0, 256, 0)}, false}, {[]api.Bf{bf(1, 0, 1, 65535)}, false}, {[]api.Bf{bf(1, 0, 0, -1)}, false}, {[]api.Bf{bf(1, 0, 0, 65536)}, false}, {[]api.Bf{bf(1, 5, 9, many(65, 7)...)}, false}, {[]api.Bf{bf(math.MaxInt, math.MinInt, math.MaxInt, math.MinInt)}, false},
		// two that would be one, and two that would not
		{[]api.Bf{bf(1, 1, 1, 5), bf(1, 2, 2, 6)}, false}, {[]api.Bf{bf(1, 1, 1, 5), bf(1, 2, 2, 5)}, true}, {[]api.Bf{bf(1, 1, 1, 3, 5), bf(1, 2, 2, 3, 6)}, false}, {[]api.Bf{bf(1, 1, 1, 3, 5), bf(1, 2, 2, 6)}, true},
		{[]api.Bf{bf(1, 5, 9, 5), bf(1, 1, 4, 70)}, false}, {[]api.Bf{bf(1, 1, 5, 5), bf(1, 5, 9, 70)}, false}, {[]api.Bf{bf(2, 1, 4, 5), bf(1, 5, 9, 70)}, false}, {[]api.Bf{bf(1, 5, 9, 5), bf(2, 1, 4, 70)}, true},
	}
)

// P9.1: each of the lists, alone, and with all else that may be, or may not.
func TestSaneLists(t *testing.T) {
	check := func(put func(tab *Table), want bool) {
		t.Helper()
		for k, tab := range tables() {
			put(&tab)
			checkSane(t, tab, want && k < 3)
		}
	}
	for _, x := range saneSpaces {
		check(func(tab *Table) { tab.Spaces = x.l }, x.want)
	}
	for _, x := range saneCids {
		check(func(tab *Table) { tab.Cids = x.l }, x.want)
	}
	for _, x := range saneNots {
		check(func(tab *Table) { tab.Nots = x.l }, x.want)
	}
	for _, x := range saneBfs {
		check(func(tab *Table) { tab.Bfs = x.l }, x.want)
	}
}

// P9.1: each way in which some of the five parts may be, and the others may not.
func TestSaneParts(t *testing.T) {
	for parts := range 32 {
		tab, bad := full(), spoiled()
		if parts&1 != 0 {
			tab.Wmode = bad.Wmode
		}
		if parts&2 != 0 {
			tab.Spaces = bad.Spaces
		}
		if parts&4 != 0 {
			tab.Cids = bad.Cids
		}
		if parts&8 != 0 {
			tab.Nots = bad.Nots
		}
		if parts&16 != 0 {
			tab.Bfs = bad.Bfs
		}
		checkSane(t, tab, parts == 0)
	}
}

// P9.1: of tables that may be, one number of which is another one, and of what is listed.
func TestSaneSome(t *testing.T) {
	rnd := rand.New(rand.NewSource(91))
	for range 3000 {
		l := someItems(rnd)
		checkSane(t, plainAll(l), true)
		lists := plainLists(l)
		checkSane(t, lists, plainSane(lists))
		tab := plainAll(l)
		nums := []*int{&tab.Wmode}
		for i := range tab.Spaces {
			nums = append(nums, &tab.Spaces[i].N, &tab.Spaces[i].Lo, &tab.Spaces[i].Hi)
		}
		for i := range tab.Cids {
			nums = append(nums, &tab.Cids[i].N, &tab.Cids[i].Lo, &tab.Cids[i].Hi, &tab.Cids[i].To)
		}
		for i := range tab.Nots {
			nums = append(nums, &tab.Nots[i].N, &tab.Nots[i].Lo, &tab.Nots[i].Hi, &tab.Nots[i].To)
		}
		for i := range tab.Bfs {
			nums = append(nums, &tab.Bfs[i].N, &tab.Bfs[i].Lo, &tab.Bfs[i].Hi, &tab.Bfs[i].To[0])
		}
		*nums[rnd.Intn(len(nums))] += rnd.Intn(3) - 1
		checkSane(t, tab, plainSane(tab))
	}
}

// P9.1: what items come to may be, however these are.
func TestSaneOfAll(t *testing.T) {
	for _, x := range others() {
		checkSane(t, All([]syn.Item{x, x}), true)
		for _, tab := range tables()[:3] {
			checkSane(t, Do(tab, x), true)
		}
	}
}

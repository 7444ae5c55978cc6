package queue

import (
	"fmt"
	"math"
	"slices"
	"testing"

	"airtime/api"
)

// ints are ints at and beyond the limits of the fields, and both ends of their range.
var ints = []int{math.MinInt, math.MinInt + 1, math.MinInt32, -lastSlot - 1, -lastSlot, -65, -64, -2, -1, 0, 1, 2, 3, 4, 5, 63, 64, 65, 1023, 1024, 1025,
	4095, 4096, lastSlot - 1, lastSlot, lastSlot + 1, lastSlot + 2, 1 << 31, 1 << 32, 1<<32 + 1, 1 << 62, math.MaxInt - 1, math.MaxInt}

// addresses are valid addresses, group addresses, and ones that are not valid.
var addresses = []api.Addr{0, 1, 2, 255, 256, nodeA, nodeB, nodeC, 0x020000000010, 0x020000000011, 1<<40 - 1, 1 << 40, 1<<40 + 1, group, 2 << 40, 3 << 40,
	0x80 << 40, 0x81 << 40, 0xfe << 40, 0xff << 40, 0xfeffffffffff, broadcast - 1, broadcast, broadcast + 1, 1<<48 + 1, 1<<48 + nodeA, 1 << 49, 1 << 63, 1<<63 + nodeA,
	math.MaxUint64 - 1, math.MaxUint64}

// lengths are lengths of data at and beyond the limit.
var lengths = []int{0, 1, 100, 255, 256, mostOctets - 1, mostOctets, mostOctets + 1, mostOctets + 2, 2047, 2048, 2049, 65536, 65536 + 5}

// variants are x with each of its fields at and beyond its limits.
func variants(x api.Item) []api.Item {
	l := []api.Item{x}
	for _, n := range ints {
		for range 4 {
			l = append(l, x)
		}
		v := l[len(l)-4:]
		v[0].ID, v[1].Cat, v[2].Born, v[3].Life = n, n, n, n
	}
	for _, a := range addresses {
		l = append(l, x, x)
		v := l[len(l)-2:]
		v[0].To, v[1].From = a, a
	}
	for _, n := range lengths {
		x.Data = octets(n)
		l = append(l, x)
	}
	return l
}

// fault is a field with a value that is not valid, and the error for it.
type fault struct {
	name string
	set  func(x *api.Item)
	e    api.Errno
}

// faults are faults of all fields that a list of items cannot excuse.
var faults = []fault{
	{"ID 0", func(x *api.Item) { x.ID = 0 }, errRange},
	{"Cat -1", func(x *api.Item) { x.Cat = -1 }, errRange},
	{"Cat 4", func(x *api.Item) { x.Cat = 4 }, errRange},
	{"To 0", func(x *api.Item) { x.To = 0 }, errRange},
	{"To 2^48", func(x *api.Item) { x.To = 1 << 48 }, errRange},
	{"From 0", func(x *api.Item) { x.From = 0 }, errRange},
	{"From 2^48", func(x *api.Item) { x.From = 1 << 48 }, errRange},
	{"From group", func(x *api.Item) { x.From = group }, errRange},
	{"From broadcast", func(x *api.Item) { x.From = broadcast }, errRange},
	{"Born -1", func(x *api.Item) { x.Born = -1 }, errRange},
	{"Born 2^24+1", func(x *api.Item) { x.Born = lastSlot + 1 }, errRange},
	{"Life -1", func(x *api.Item) { x.Life = -1 }, errRange},
	{"Life 2^24+1", func(x *api.Item) { x.Life = lastSlot + 1 }, errRange},
	{"Data of 1025 octets", func(x *api.Item) { x.Data = octets(mostOctets + 1) }, errLong},
}

// twice gives an item the identifier 1, which is there already.
var twice = fault{"ID 1", func(x *api.Item) { x.ID = 1 }, errTwice}

// worse returns the error of the two that the chapter names first.
func worse(a, b api.Errno) api.Errno {
	for _, e := range []api.Errno{errRange, errLong, errTwice} {
		if a == e || b == e {
			return e
		}
	}
	return 0
}

// P23.1

func TestCheckWrittenOut(t *testing.T) {
	for _, c := range []struct {
		x api.Item
		e api.Errno
	}{
		{api.Item{}, errRange},
		{api.Item{ID: 1, To: nodeB, From: nodeA}, 0},
		{api.Item{ID: math.MaxInt, To: nodeB, From: nodeA}, 0},
		{api.Item{ID: 0, To: nodeB, From: nodeA}, errRange},
		{api.Item{ID: -1, To: nodeB, From: nodeA}, errRange},
		{api.Item{ID: math.MinInt, To: nodeB, From: nodeA}, errRange},
		{api.Item{ID: 1, To: nodeB, From: nodeA, Cat: api.Background}, 0},
		{api.Item{ID: 1, To: nodeB, From: nodeA, Cat: api.Voice}, 0},
		{api.Item{ID: 1, To: nodeB, From: nodeA, Cat: api.Manage}, errRange},
		{api.Item{ID: 1, To: nodeB, From: nodeA, Cat: -1}, errRange},
		{api.Item{ID: 1, To: nodeA, From: nodeA}, 0},
		{api.Item{ID: 1, To: 1, From: 1}, 0},
		{api.Item{ID: 1, To: group, From: nodeA}, 0},
		{api.Item{ID: 1, To: broadcast, From: nodeA}, 0},
		{api.Item{ID: 1, To: broadcast + 1, From: nodeA}, errRange},
		{api.Item{ID: 1, From: nodeA}, errRange},
		{api.Item{ID: 1, To: nodeB}, errRange},
		{api.Item{ID: 1, To: nodeB, From: group}, errRange},
		{api.Item{ID: 1, To: nodeB, From: broadcast}, errRange},
		{api.Item{ID: 1, To: nodeB, From: broadcast + 1}, errRange},
		{api.Item{ID: 1, To: nodeB, From: broadcast + 3}, errRange},
		{api.Item{ID: 1, To: nodeB, From: 0xfeffffffffff}, 0},
		{api.Item{ID: 1, To: nodeB, From: nodeA, Born: lastSlot, Life: lastSlot}, 0},
		{api.Item{ID: 1, To: nodeB, From: nodeA, Born: -1}, errRange},
		{api.Item{ID: 1, To: nodeB, From: nodeA, Born: lastSlot + 1}, errRange},
		{api.Item{ID: 1, To: nodeB, From: nodeA, Life: -1}, errRange},
		{api.Item{ID: 1, To: nodeB, From: nodeA, Life: lastSlot + 1}, errRange},
		{api.Item{ID: 1, To: nodeB, From: nodeA, Data: octets(1024)}, 0},
		{api.Item{ID: 1, To: nodeB, From: nodeA, Data: octets(1025)}, errLong},
		{api.Item{ID: 1, To: nodeB, From: nodeA, Data: "\x00\xff\n"}, 0},
	} {
		wantCheck(t, []api.Item{c.x}, c.e)
	}
}

func TestCheckCountsOctets(t *testing.T) {
	x := item(1, nodeB)
	for range 512 {
		x.Data += "\u00e4"
	}
	wantCheck(t, []api.Item{x}, 0)
	x.Data += "\u00e4"
	wantCheck(t, []api.Item{x}, errLong)
}

func TestCheckNumberOfItems(t *testing.T) {
	wantCheck(t, nil, 0)
	for n := range mostItems + 1 {
		wantCheck(t, queueOf(n), 0)
	}
	for _, n := range []int{65, 66, 127, 128, 129, 1000, 100000} {
		wantCheck(t, queueOf(n), errFull)
	}
}

func TestCheckSizeFirst(t *testing.T) {
	for _, f := range append(slices.Clone(faults), twice) {
		for _, i := range []int{1, 2, 32, 63, 64} {
			l := queueOf(mostItems + 1)
			f.set(&l[i])
			wantCheck(t, l, errFull)
			wantCheck(t, l[:mostItems], checkOf(l[:mostItems]))
		}
	}
	wantCheck(t, make([]api.Item, mostItems), errRange)
	wantCheck(t, make([]api.Item, mostItems+1), errFull)
}

func TestCheckFields(t *testing.T) {
	for _, n := range []int{1, 2, 5, mostItems} {
		for _, i := range []int{0, n / 2, n - 1} {
			for _, x := range variants(full(n+1, nodeB)) {
				l := queueOf(n)
				l[i] = x
				wantCheck(t, l, checkOf(l))
			}
		}
	}
}

func TestCheckTwice(t *testing.T) {
	for _, n := range []int{2, 3, 7, 63, mostItems} {
		for i := range n {
			for j := i + 1; j < n; j++ {
				l := queueOf(n)
				l[j].ID = l[i].ID
				wantCheck(t, l, errTwice)
				l[j] = l[i]
				wantCheck(t, l, errTwice)
				l[i].ID, l[j].ID = math.MaxInt, math.MaxInt-1
				wantCheck(t, l, 0)
			}
		}
	}
}

func TestCheckOnlyIdentifiersAreDifferent(t *testing.T) {
	l := make([]api.Item, mostItems)
	for i := range l {
		l[i] = full(1, nodeB)
		l[i].ID = 1000 - i
	}
	wantCheck(t, l, 0)
}

func TestCheckOrderWithinAnItem(t *testing.T) {
	all := append(slices.Clone(faults), twice)
	for _, f := range all {
		for _, g := range all {
			if f.name[:2] == g.name[:2] {
				continue
			}
			l := queueOf(3)
			f.set(&l[2])
			g.set(&l[2])
			wantCheck(t, l, worse(f.e, g.e))
		}
	}
}

func TestCheckOrderAmongItems(t *testing.T) {
	all := append(slices.Clone(faults), twice)
	for _, f := range all {
		for _, g := range all {
			for _, p := range [][2]int{{1, 2}, {1, 5}, {3, 4}, {4, 5}} {
				l := queueOf(6)
				f.set(&l[p[0]])
				g.set(&l[p[1]])
				wantCheck(t, l, f.e)
			}
		}
	}
}

// P23.4

// addressLists returns all lists of up to n items for three nodes.
func addressLists(n int) [][]api.Item {
	all := [][]api.Item{nil, {}}
	longest := [][]api.Item{nil}
	for i := range n {
		var longer [][]api.Item
		for _, l := range longest {
			for _, to := range []api.Addr{nodeA, nodeB, nodeC} {
				longer = append(longer, join(l, full(i+1, to)))
			}
		}
		all = append(all, longer...)
		longest = longer
	}
	return all
}

func TestHeadWrittenOut(t *testing.T) {
	l := []api.Item{item(1, nodeA), item(2, nodeB), item(3, nodeB), item(4, nodeA), item(5, nodeC)}
	of := func(a ...api.Addr) []api.Addr { return a }
	wantHead(t, l, nil, l[0], true, of(nodeA))
	wantHead(t, l, of(nodeB, nodeC), l[0], true, of(nodeA))
	wantHead(t, l, of(nodeA), l[1], true, of(nodeA, nodeB))
	wantHead(t, l, of(nodeA, nodeC), l[1], true, of(nodeA, nodeB))
	wantHead(t, l, of(nodeA, nodeB), l[4], true, of(nodeA, nodeB, nodeB, nodeA, nodeC))
	wantHead(t, l, of(nodeA, nodeB, nodeC), api.Item{}, false, of(nodeA, nodeB, nodeB, nodeA, nodeC))
	wantHead(t, l[1:], of(nodeB), l[3], true, of(nodeB, nodeB, nodeA))
	wantHead(t, l[:0], nil, api.Item{}, false, nil)
	wantHead(t, nil, nil, api.Item{}, false, nil)
	wantHead(t, nil, of(nodeA), api.Item{}, false, nil)
}

func TestHeadWithoutSkip(t *testing.T) {
	for _, l := range [][]api.Item{nil, {}, {{}}, {{}, item(1, nodeA)}, {item(7, nodeB)}, {item(7, nodeB), item(8, nodeA)}, queueOf(mostItems), queueOf(1000)} {
		wantNilHead(t, l)
	}
}

func TestHeadOfAllSmallLists(t *testing.T) {
	for _, l := range addressLists(6) {
		for set := range 8 {
			var skipped []api.Addr
			for i, a := range []api.Addr{nodeA, nodeB, nodeC} {
				if set>>i&1 == 1 {
					skipped = append(skipped, a)
				}
			}
			wantHeadModel(t, l, skipped...)
		}
	}
}

// P23.4: skip is called once for each item, so that what it answers may differ from call to call.
func TestHeadAsksOnce(t *testing.T) {
	for _, n := range []int{1, 2, 5, mostItems, 200} {
		for answer := 1; answer <= n+1; answer++ {
			l := queueOf(n)
			calls := 0
			x, ok := Head(l, func(to api.Addr) bool {
				calls++
				return calls != answer
			})
			switch {
			case answer <= n && (x != l[answer-1] || !ok || calls != answer):
				t.Fatalf("Head, where skip is false in call %d, gives %+v, %v after %d calls", answer, x, ok, calls)
			case answer > n && (x != api.Item{} || ok || calls != n):
				t.Fatalf("Head, where skip is always true, gives %+v, %v after %d calls", x, ok, calls)
			}
		}
	}
}

// R1: Head does not panic, whatever skip does.
func TestHeadWithASkipThatPanics(t *testing.T) {
	l := queueOf(5)
	before := slices.Clone(l)
	for at := 1; at <= 5; at++ {
		for _, cause := range []any{"no", 0, nil, fmt.Errorf("no")} {
			calls := 0
			x, ok := Head(l, func(to api.Addr) bool {
				if calls++; calls == at {
					panic(cause)
				}
				return true
			})
			if x != (api.Item{}) || ok || calls != at || !slices.Equal(l, before) {
				t.Fatalf("Head, where call %d of skip panics, gives %+v, %v after %d calls", at, x, ok, calls)
			}
		}
	}
	if x, ok := Head(l, nil); x != l[0] || !ok {
		t.Fatalf("Head gives %+v, %v after a panic", x, ok)
	}
}

// P23.7

func TestCountWrittenOut(t *testing.T) {
	l := []api.Item{item(1, nodeA), item(2, nodeB), item(3, nodeB), item(4, broadcast), item(4, nodeB), {}}
	wantCount(t, l, nodeA, 1)
	wantCount(t, l, nodeB, 3)
	wantCount(t, l, nodeC, 0)
	wantCount(t, l, broadcast, 1)
	wantCount(t, l, group, 0)
	wantCount(t, l, 0, 1)
	wantCount(t, l, math.MaxUint64, 0)
	wantCount(t, l[:3], nodeB, 2)
	wantCount(t, nil, nodeA, 0)
	wantCount(t, []api.Item{}, 0, 0)
	for _, n := range []int{1, 63, 64, 65, 256, 100000} {
		wantCount(t, make([]api.Item, n), 0, n)
		wantCount(t, make([]api.Item, n), nodeA, 0)
	}
}

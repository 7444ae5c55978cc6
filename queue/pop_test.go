package queue

import (
	"math"
	"math/rand"
	"slices"
	"testing"

	"airtime/api"
)

// P23.3

func TestPopWrittenOut(t *testing.T) {
	one, two, three := item(1, nodeA), item(2, nodeB), item(3, nodeB)
	l := []api.Item{one, two, three}
	want(t, l, popping(nodeB), outcome{x: two, l: []api.Item{one, three}, ok: true})
	want(t, l, popping(nodeA), outcome{x: one, l: []api.Item{two, three}, ok: true})
	want(t, l, popping(nodeC), outcome{l: l})
	want(t, l, popping(0), outcome{l: l})
	want(t, l, popping(math.MaxUint64), outcome{l: l})
	want(t, l[:2], popping(nodeB), outcome{x: two, l: []api.Item{one}, ok: true})
	want(t, l[1:], popping(nodeB), outcome{x: two, l: []api.Item{three}, ok: true})
	want(t, l[:1], popping(nodeA), outcome{x: one, ok: true})
	want(t, nil, popping(nodeA), outcome{})
	want(t, []api.Item{}, popping(nodeA), outcome{})
	want(t, nil, popping(0), outcome{})
	want(t, []api.Item{}, popping(0), outcome{})
	want(t, []api.Item{{}, one}, popping(0), outcome{l: []api.Item{one}, ok: true})
	want(t, []api.Item{{ID: 5, From: nodeB}}, popping(nodeB), outcome{l: []api.Item{{ID: 5, From: nodeB}}})
}

func TestPopReturnsEveryField(t *testing.T) {
	x := api.Item{ID: math.MaxInt, Cat: -3, To: 1 << 60, From: broadcast, Data: "\x00\xffdata", Born: math.MinInt, Life: math.MaxInt}
	want(t, []api.Item{item(1, nodeA), x, item(2, nodeB)}, popping(1<<60), outcome{x: x, l: []api.Item{item(1, nodeA), item(2, nodeB)}, ok: true})
}

// TestPopAll pops the items for an address one after the other.
func TestPopAll(t *testing.T) {
	l := queueOf(mostItems)
	others, mine := purgeOf(l, nodeB).l, purgeOf(l, nodeB).gone
	for _, x := range mine {
		rest := slices.DeleteFunc(join(l), func(y api.Item) bool { return y.ID == x.ID })
		l = want(t, l, popping(nodeB), outcome{x: x, l: rest, ok: true})
	}
	want(t, l, popping(nodeB), outcome{l: others})
}

// P23.5

func TestExpireWrittenOut(t *testing.T) {
	x := living(1, 10, 5)
	want(t, []api.Item{x}, expiring(14), outcome{l: []api.Item{x}})
	want(t, []api.Item{x}, expiring(15), outcome{gone: []api.Item{x}})
	for _, now := range []int{math.MinInt, -15, -1, 0, 5, 9, 10, 11} {
		want(t, []api.Item{x}, expiring(now), outcome{l: []api.Item{x}})
	}
	for _, now := range []int{16, 100, lastSlot, 1 << 32, math.MaxInt} {
		want(t, []api.Item{x}, expiring(now), outcome{gone: []api.Item{x}})
	}
	forever, negative := living(2, 10, 0), living(3, 10, -1)
	for _, now := range ints {
		want(t, []api.Item{forever, negative}, expiring(now), outcome{l: []api.Item{forever, negative}})
		want(t, nil, expiring(now), outcome{})
		want(t, []api.Item{}, expiring(now), outcome{})
	}
	l := []api.Item{living(1, 10, 5), living(2, 0, 15), living(3, 11, 5), living(4, 15, 0), living(5, 14, 1), living(6, 15, 1)}
	want(t, l, expiring(15), outcome{l: []api.Item{l[2], l[3], l[5]}, gone: []api.Item{l[0], l[1], l[4]}})
	want(t, l, expiring(16), outcome{l: []api.Item{l[3]}, gone: []api.Item{l[0], l[1], l[2], l[4], l[5]}})
	want(t, l, expiring(14), outcome{l: l})
}

// TestExpireAtBothEnds has numbers whose sum or difference does not fit into an int.
func TestExpireAtBothEnds(t *testing.T) {
	const least, most = math.MinInt, math.MaxInt
	for _, c := range []struct {
		born, life, now int
		gone            bool
	}{
		{least, most, most, true}, {least, 1, most, true}, {least, most, -2, false}, {least, most, -1, true}, {least, most, 0, true},
		{least, 1, least, false}, {least, 1, least + 1, true}, {least, 5, least + 4, false}, {least, 0, most, false}, {least, least, most, false},
		{least, -1, most, false}, {-1, most, most, true}, {-1, most, most - 1, true}, {-1, most, most - 2, false}, {0, most, most, true},
		{0, most, most - 1, false}, {1, most, most, false}, {most, 1, most, false}, {most, most, most, false}, {most, 1, least, false},
		{most, most, least, false}, {most, least, least, false}, {most, 1, 0, false}, {most - 1, 1, most, true}, {most - 5, 6, most, false},
		{1, 1, least, false}, {1, 5, least + 1, false}, {2, most, least, false}, {0, 1, least, false}, {1 << 62, 1 << 62, most, false},
		{1<<62 - 1, 1 << 62, most, true}, {-1 << 62, most, 1<<62 - 2, false}, {-1 << 62, most, 1<<62 - 1, true}, {least, 3, most - 1, true},
	} {
		x := living(1, c.born, c.life)
		if o := expireOf([]api.Item{x}, c.now); c.gone != (len(o.gone) == 1) {
			t.Fatalf("the model of %+v at %d gives %+v", x, c.now, o)
		}
		wantModel(t, []api.Item{x}, expiring(c.now))
		wantModel(t, []api.Item{living(2, 0, 0), x, living(3, 0, 0)}, expiring(c.now))
	}
}

func TestExpireAllNumbers(t *testing.T) {
	for _, born := range ints {
		for _, life := range ints {
			for _, now := range ints {
				wantModel(t, []api.Item{living(1, born, life)}, expiring(now))
			}
			for d := -2; d <= 2; d++ {
				wantModel(t, []api.Item{living(1, born, life)}, expiring(born+life+d))
			}
		}
	}
}

func TestExpireSmallNumbers(t *testing.T) {
	for born := -4; born <= 8; born++ {
		for life := -3; life <= 6; life++ {
			for now := -12; now <= 20; now++ {
				wantModel(t, []api.Item{living(1, born, life)}, expiring(now))
			}
		}
	}
}

func TestExpireAllSmallLists(t *testing.T) {
	kinds := []api.Item{living(0, 0, 0), living(0, 10, 5), living(0, 14, 1), living(0, 20, 3), living(0, 15, -1), living(0, 15, 2)}
	var extend func(l []api.Item, left int)
	extend = func(l []api.Item, left int) {
		for _, now := range []int{-1, 13, 14, 15, 16, 17, 23} {
			wantModel(t, l, expiring(now))
		}
		for _, x := range kinds {
			if left > 0 {
				x.ID = len(l) + 1
				extend(join(l, x), left-1)
			}
		}
	}
	extend(nil, 4)
}

// P23.6

func TestPurgeWrittenOut(t *testing.T) {
	a, b, c, d := item(1, nodeA), item(2, nodeB), item(3, nodeB), item(4, nodeA)
	l := []api.Item{a, b, c, d}
	want(t, l, purging(nodeA), outcome{l: []api.Item{b, c}, gone: []api.Item{a, d}})
	want(t, l, purging(nodeB), outcome{l: []api.Item{a, d}, gone: []api.Item{b, c}})
	want(t, l, purging(nodeC), outcome{l: l})
	want(t, l, purging(0), outcome{l: l})
	want(t, l, purging(math.MaxUint64), outcome{l: l})
	want(t, l[1:3], purging(nodeB), outcome{gone: []api.Item{b, c}})
	want(t, l[:1], purging(nodeA), outcome{gone: []api.Item{a}})
	want(t, nil, purging(nodeA), outcome{})
	want(t, []api.Item{}, purging(nodeA), outcome{})
	want(t, nil, purging(0), outcome{})
	want(t, []api.Item{{}, a, {ID: 9}}, purging(0), outcome{l: []api.Item{a}, gone: []api.Item{{}, {ID: 9}}})
	want(t, []api.Item{{ID: 5, From: nodeB}}, purging(nodeB), outcome{l: []api.Item{{ID: 5, From: nodeB}}})
}

// P23.3, P23.4, P23.6 and P23.7

func TestAddressesOfAllSmallLists(t *testing.T) {
	for _, l := range addressLists(7) {
		for _, to := range []api.Addr{nodeA, nodeB, nodeC, group} {
			wantAddress(t, l, to)
		}
	}
}

// TestEveryAddress has addresses that differ in one bit, and ones that are not valid.
func TestEveryAddress(t *testing.T) {
	var l []api.Item
	for i, to := range addresses {
		l = append(l, item(i+1, to))
	}
	for bit := range 64 {
		l = append(l, item(1000+bit, nodeB^1<<bit))
	}
	for _, x := range join(l) {
		wantAddress(t, l, x.To)
		wantAddress(t, []api.Item{x}, x.To)
		wantAddress(t, []api.Item{x}, nodeB)
	}
}

// TestOneAddressAmongOthers has one or two items for an address at every place of lists of several sizes.
func TestOneAddressAmongOthers(t *testing.T) {
	for _, n := range []int{1, 2, 5, 63, 64, 65} {
		for i := range n {
			for _, j := range []int{0, i, (i + 1) % n, n - 1} {
				l := make([]api.Item, n)
				for k := range l {
					l[k] = item(k+1, nodeA)
				}
				l[i].To, l[j].To = nodeB, nodeB
				wantAddress(t, l, nodeA)
				wantAddress(t, l, nodeB)
				wantAddress(t, l, nodeC)
			}
		}
	}
}

// P23.8

// isMerged reports whether the items of two lists, each in order, are those of l, whose identifiers are different.
func isMerged(l, a, b []api.Item) bool {
	for _, x := range l {
		switch {
		case len(a) > 0 && a[0] == x:
			a = a[1:]
		case len(b) > 0 && b[0] == x:
			b = b[1:]
		default:
			return false
		}
	}
	return len(a) == 0 && len(b) == 0
}

// randomItems returns n items with the identifiers from 1 on, with fields that are valid or not.
func randomItems(r *rand.Rand, n int) []api.Item {
	l := []api.Item{}
	for i := range n {
		x := full(i+1, []api.Addr{nodeA, nodeB, nodeC, group, broadcast, 0}[r.Intn(6)])
		x.Born, x.Life = r.Intn(40)-5, r.Intn(30)-5
		if r.Intn(10) == 0 {
			x = api.Item{ID: i + 1, To: api.Addr(r.Uint64()), Born: ints[r.Intn(len(ints))], Life: ints[r.Intn(len(ints))]}
		}
		l = append(l, x)
	}
	return l
}

func TestNothingIsLost(t *testing.T) {
	r := rand.New(rand.NewSource(23))
	for range 4000 {
		l := randomItems(r, r.Intn(90))
		now, to := r.Intn(70)-10, []api.Addr{nodeA, nodeB, nodeC, group, broadcast, 0}[r.Intn(6)]
		if left, gone := Expire(l, now); !isMerged(l, left, gone) {
			t.Fatalf("Expire of %d at %d gives %d and %d", ids(l), now, ids(left), ids(gone))
		}
		if left, gone := Purge(l, to); !isMerged(l, left, gone) || len(gone) != Count(l, to) || Count(left, to) != 0 {
			t.Fatalf("Purge of %d for %d gives %d and %d", ids(l), to, ids(left), ids(gone))
		}
		x, left, ok := Pop(l, to)
		gone := []api.Item{x}
		if !ok {
			gone = nil
		}
		if !isMerged(l, left, gone) || ok != (Count(l, to) > 0) {
			t.Fatalf("Pop of %d for %d gives %d and %+v, %v", ids(l), to, ids(left), x, ok)
		}
		y := item(1000, to)
		if more, e := Push(l, y, 64); e == 0 && !isMerged(join(l, y), more, nil) {
			t.Fatalf("Push of 1000 to %d gives %d", ids(l), ids(more))
		}
		wantModel(t, l, expiring(now))
		wantAddress(t, l, to)
		wantModel(t, l, pushing(y, r.Intn(90)))
	}
}

func TestLongLists(t *testing.T) {
	r := rand.New(rand.NewSource(5))
	for _, n := range []int{64, 65, 66, 127, 128, 129, 1000, 20000} {
		l := randomItems(r, n)
		for _, to := range []api.Addr{nodeA, broadcast, 0, 7} {
			wantAddress(t, l, to)
		}
		for _, now := range ints {
			wantModel(t, l, expiring(now))
		}
		wantModel(t, l, pushing(item(n+1, nodeA), math.MaxInt))
	}
}

package queue

import (
	"math"
	"slices"
	"testing"

	"airtime/api"
)

// bases are lists onto which items are pushed: valid queues, and lists that are not valid.
func bases() [][]api.Item {
	l := [][]api.Item{nil, {}, queueOf(1), queueOf(2), queueOf(7), queueOf(62), queueOf(63), queueOf(64), queueOf(65), queueOf(66), queueOf(300)}
	wrong := queueOf(5)
	wrong[0].ID, wrong[1].To, wrong[2].From, wrong[3].Data, wrong[4].Life = math.MinInt, 0, broadcast, octets(mostOctets+1), -1
	same := []api.Item{full(2, nodeA), full(2, nodeA), full(3, nodeB), full(2, nodeC)}
	return append(l, wrong, same, make([]api.Item, 3), make([]api.Item, 63), make([]api.Item, 64))
}

// rooms are values of most around n and around MaxQueue, and at both ends.
func rooms(n int) []int {
	return []int{math.MinInt, math.MinInt + 1, -65, -64, -1, 0, 1, n - 2, n - 1, n, n + 1, n + 2, 62, 63, 64, 65, 66, 128, 1000, math.MaxInt - 1, math.MaxInt}
}

// P23.2

func TestPushWrittenOut(t *testing.T) {
	a, b, c := item(1, nodeA), item(2, nodeB), item(3, nodeA)
	l := want(t, nil, pushing(a, 3), outcome{l: []api.Item{a}})
	l = want(t, l, pushing(b, 3), outcome{l: []api.Item{a, b}})
	want(t, l, pushing(c, 2), outcome{e: errFull})
	want(t, l, pushing(c, 1), outcome{e: errFull})
	want(t, l, pushing(c, 0), outcome{e: errFull})
	want(t, l, pushing(c, -1), outcome{e: errFull})
	want(t, l, pushing(b, 3), outcome{e: errTwice})
	want(t, l, pushing(b, 2), outcome{e: errTwice})
	want(t, l, pushing(api.Item{ID: 1, To: nodeC, From: nodeC, Cat: 3, Data: "d", Born: 5, Life: 6}, 3), outcome{e: errTwice})
	l = want(t, l, pushing(c, 3), outcome{l: []api.Item{a, b, c}})
	want(t, l, pushing(item(4, broadcast), 3), outcome{e: errFull})
	want(t, l, pushing(item(4, broadcast), 4), outcome{l: []api.Item{a, b, c, item(4, broadcast)}})
	want(t, l, pushing(item(0, broadcast), 4), outcome{e: errRange})
	want(t, l, pushing(api.Item{ID: 4, To: nodeB, From: nodeA, Data: octets(1025)}, 4), outcome{e: errLong})
	want(t, l, pushing(api.Item{ID: 3, To: nodeB, From: nodeA, Data: octets(1025)}, 3), outcome{e: errLong})
	want(t, l, pushing(api.Item{ID: 3, To: nodeB, From: group, Data: octets(1025)}, 3), outcome{e: errRange})
}

func TestPushKeepsEveryField(t *testing.T) {
	x := api.Item{ID: math.MaxInt, Cat: 2, To: group, From: nodeC, Data: "\x00\xffdata", Born: 16777216, Life: 16777215}
	l := queueOf(3)
	want(t, l, pushing(x, 64), outcome{l: []api.Item{l[0], l[1], l[2], x}})
	want(t, nil, pushing(x, 1), outcome{l: []api.Item{x}})
}

func TestPushUpToTheLimit(t *testing.T) {
	for _, most := range []int{1, 2, 3, 32, 63, 64, 65, 1000, math.MaxInt} {
		l := []api.Item{}
		for id := 1; len(l) < min(most, mostItems); id++ {
			n := want(t, l, pushing(full(id, nodeB), most), outcome{l: join(l, full(id, nodeB))})
			wantCheck(t, n, 0)
			l = n
		}
		want(t, l, pushing(full(65, nodeB), most), outcome{e: errFull})
	}
}

func TestPushForEveryRoom(t *testing.T) {
	for n := range mostItems + 4 {
		l := queueOf(n)
		for _, most := range rooms(n) {
			wantModel(t, l, pushing(full(n+1, nodeC), most))
			wantModel(t, l, pushing(full(1, nodeC), most))
			wantModel(t, l, pushing(full(n, nodeC), most))
		}
	}
}

func TestPushFields(t *testing.T) {
	for _, l := range bases() {
		for _, x := range variants(full(1000, nodeB)) {
			wantModel(t, l, pushing(x, math.MaxInt))
			wantModel(t, l, pushing(x, len(l)+1))
			wantModel(t, l, pushing(x, len(l)))
		}
	}
}

func TestPushTwice(t *testing.T) {
	for _, l := range bases() {
		for i, y := range l {
			if y.ID < 1 {
				continue
			}
			for _, x := range []api.Item{item(y.ID, nodeC), {ID: y.ID, To: broadcast, From: nodeB, Cat: 1, Data: "new", Born: 77, Life: 8}} {
				if want(t, l, pushing(x, 64), outcome{e: errTwice}); i%8 == 0 {
					want(t, l, pushing(x, 0), outcome{e: errTwice})
					want(t, l, pushing(x, math.MinInt), outcome{e: errTwice})
				}
			}
		}
	}
}

// TestPushTwoFaults has pairs of faults of an item, with an identifier that is there or not, with room and without.
func TestPushTwoFaults(t *testing.T) {
	none := fault{"no", func(*api.Item) {}, 0}
	all := append([]fault{none}, faults...)
	for _, f := range all {
		for _, g := range all {
			for _, id := range []int{1, 2, 3, 4} {
				for _, most := range []int{math.MinInt, 0, 2, 3, 4, 64} {
					x := full(id, nodeC)
					f.set(&x)
					g.set(&x)
					e := worse(f.e, g.e)
					switch {
					case e != 0:
					case id < 4:
						e = errTwice
					case most < 4:
						e = errFull
					}
					if _, got := Push(queueOf(3), x, most); got != e {
						t.Fatalf("Push of an item with %s, %s and ID %d with most %d gives %d, want %d", f.name, g.name, id, most, got, e)
					}
					wantModel(t, queueOf(3), pushing(x, most))
				}
			}
		}
	}
}

// P23.2: the items of the list are not checked.
func TestPushOntoListsThatAreNotValid(t *testing.T) {
	for _, f := range append(slices.Clone(faults), fault{"ID 7", func(x *api.Item) { x.ID = 7 }, 0}) {
		for i := range 4 {
			l := queueOf(4)
			l[3-i].ID = 7
			f.set(&l[i])
			want(t, l, pushing(item(9, nodeA), 64), outcome{l: join(l, item(9, nodeA))})
			want(t, l, pushing(item(9, nodeA), 4), outcome{e: errFull})
			want(t, l, pushing(item(8, nodeA), math.MaxInt), outcome{l: join(l, item(8, nodeA))})
		}
	}
	want(t, make([]api.Item, 63), pushing(item(1, nodeA), 64), outcome{l: join(make([]api.Item, 63), item(1, nodeA))})
	want(t, make([]api.Item, 64), pushing(item(1, nodeA), 65), outcome{e: errFull})
	want(t, make([]api.Item, 100000), pushing(item(1, nodeA), math.MaxInt), outcome{e: errFull})
	want(t, make([]api.Item, 100000), pushing(api.Item{}, math.MaxInt), outcome{e: errRange})
}

// P23.9

func TestPushToAValidQueueGivesAValidQueue(t *testing.T) {
	for n := range mostItems + 1 {
		for _, most := range rooms(n) {
			for _, x := range variants(full(n+1, nodeB)) {
				l, e := Push(queueOf(n), x, most)
				if Check(l) != 0 || e != 0 && len(l) > 0 || e == 0 && len(l) != n+1 {
					t.Fatalf("Push of %+v to a queue of %d items gives %d items, %d; Check gives %d", short(x), n, len(l), e, Check(l))
				}
			}
		}
	}
}

// R5: two items are pushed to the same list, which has room behind its end.
func TestPushTwiceToOneList(t *testing.T) {
	for n := range 40 {
		l, _ := Push(queueOf(n), item(100, nodeA), 64)
		a, _ := Push(l, item(101, nodeA), 64)
		b, _ := Push(l, item(102, nodeB), 64)
		if a[n+1].ID != 101 || b[n+1].ID != 102 || len(l) != n+1 {
			t.Fatalf("Push of 101 and 102 to one list of %d items gives %d and %d", n+1, ids(a), ids(b))
		}
	}
}

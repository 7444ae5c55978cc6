package queue

import (
	"math/rand"
	"slices"
	"testing"

	"airtime/api"
)

// fewCalls are calls for all short sequences of calls, with identifiers that come twice, a queue that becomes full and
// items that expire.
func fewCalls() []call {
	return []call{
		pushing(living(1, 0, 0), 3), pushing(living(2, 0, 10), 3), pushing(living(3, 5, 10), 4), pushing(item(2, nodeB), 3),
		pushing(item(4, nodeB), 3), pushing(item(5, broadcast), 2), pushing(item(0, nodeB), 3),
		popping(nodeA), popping(nodeB), popping(nodeC), expiring(10), expiring(15), purging(nodeA), purging(broadcast),
	}
}

// P23.8 and P23.9: every sequence of four calls, of each of which the results are what the chapter says.

func TestAllShortSequences(t *testing.T) {
	calls := fewCalls()
	var extend func(l []api.Item, left int)
	extend = func(l []api.Item, left int) {
		for _, c := range calls {
			n := wantModel(t, l, c)
			if Check(n) != 0 {
				t.Fatalf("%+v of the valid queue %+v gives %+v, of which Check is %d", c.brief(), brief(l), brief(n), Check(n))
			}
			if left > 1 && c.ofModel(l).e == 0 {
				extend(n, left-1)
			}
		}
	}
	extend(nil, 4)
	extend([]api.Item{living(7, 4, 6), item(8, nodeB)}, 3)
}

// R5: the lists that a call returned are given to several further calls; what they have stays.
func TestListsStayAsTheyWere(t *testing.T) {
	calls := fewCalls()
	var extend func(l []api.Item, left int)
	extend = func(l []api.Item, left int) {
		was := slices.Clone(l)
		var results, copies []outcome
		for _, c := range calls {
			o := c.of(l)
			results = append(results, o)
			copies = append(copies, o.copied())
		}
		for i, o := range results {
			if left > 1 {
				extend(o.l, left-1)
				extend(o.gone, left-1)
			}
			if !slices.Equal(l, was) || !o.equal(copies[i]) {
				t.Fatalf("%+v of %+v gave %+v, and later calls changed this to %+v", calls[i].brief(), was, copies[i], o)
			}
		}
		for i, o := range results {
			if !o.equal(copies[i]) {
				t.Fatalf("%+v of %+v gave %+v, and calls with other lists changed this to %+v", calls[i].brief(), was, copies[i], o)
			}
		}
	}
	extend(nil, 3)
	extend([]api.Item{living(7, 4, 6), item(8, nodeB)}, 3)
}

// run is a queue over many calls, and what has become of the items that were pushed.
type run struct {
	l             []api.Item
	pushed, ended map[int]int
	now, lastID   int
}

// push pushes an item with the next identifier.
func (u *run) push(t *testing.T, r *rand.Rand, most int) {
	x := api.Item{ID: u.lastID + 1, Cat: r.Intn(4), To: []api.Addr{nodeA, nodeB, broadcast}[r.Intn(3)], From: nodeC, Data: "d", Born: u.now, Life: r.Intn(40)}
	n := wantModel(t, u.l, pushing(x, most))
	if len(u.l) < most {
		u.lastID++
		u.pushed[x.ID]++
		u.l = n
	}
}

// end counts items that have left the queue.
func (u *run) end(gone []api.Item) {
	for _, x := range gone {
		u.ended[x.ID]++
	}
}

// step makes one call, which is chosen by chance.
func (u *run) step(t *testing.T, r *rand.Rand, most int) {
	to := []api.Addr{nodeA, nodeB, nodeC, broadcast}[r.Intn(4)]
	switch u.now += r.Intn(3); r.Intn(12) {
	default:
		u.push(t, r, most)
	case 7, 8, 9:
		x, n, ok := Pop(u.l, to)
		if u.l = n; ok {
			u.ended[x.ID]++
		}
	case 10:
		var gone []api.Item
		u.l, gone = Expire(u.l, u.now)
		u.end(gone)
	case 11:
		var gone []api.Item
		if r.Intn(8) == 0 {
			u.l, gone = Purge(u.l, to)
			u.end(gone)
		}
	}
}

// check checks that every item that was pushed is there, or has left the queue once, and that the queue is valid and
// in the order of the arrivals.
func (u *run) check(t *testing.T) {
	t.Helper()
	there := map[int]int{}
	for i, x := range u.l {
		if there[x.ID]++; i > 0 && u.l[i-1].ID >= x.ID {
			t.Fatalf("a queue has %d in front of %d", u.l[i-1].ID, x.ID)
		}
	}
	for id := 1; id <= u.lastID; id++ {
		if u.pushed[id] != 1 || there[id]+u.ended[id] != 1 {
			t.Fatalf("item %d was pushed %d times, is there %d times and has left %d times", id, u.pushed[id], there[id], u.ended[id])
		}
	}
	wantCheck(t, u.l, 0)
}

// P23.8 and P23.9

func TestLongRuns(t *testing.T) {
	for seed, most := range []int{1, 2, 5, 20, 63, 64} {
		r := rand.New(rand.NewSource(int64(seed)))
		u := &run{pushed: map[int]int{}, ended: map[int]int{}}
		for i := range 2000 {
			u.step(t, r, most)
			if i%20 == 0 {
				u.check(t)
			}
			wantHeadModel(t, u.l, nodeA)
			wantHeadModel(t, u.l, nodeB, broadcast)
		}
		u.check(t)
	}
}

// R1: no call panics, whatever the list and the numbers are.
func TestNoCallPanics(t *testing.T) {
	r := rand.New(rand.NewSource(9))
	number := func() int { return ints[r.Intn(len(ints))] }
	node := func() api.Addr { return addresses[r.Intn(len(addresses))] }
	for range 20000 {
		l := make([]api.Item, r.Intn(70))
		for i := range l {
			l[i] = api.Item{ID: number(), Cat: number(), To: node(), From: node(), Data: octets(r.Intn(3)), Born: number(), Life: number()}
		}
		x := api.Item{ID: number(), Cat: r.Intn(5) - 1, To: node(), From: node(), Born: r.Intn(3) - 1, Life: number()}
		if Check(l) != checkOf(l) {
			t.Fatalf("Check of %+v gives %d, want %d", l, Check(l), checkOf(l))
		}
		for _, c := range []call{pushing(x, number()), popping(node()), expiring(number()), purging(node())} {
			if o := c.of(l); !o.equal(c.ofModel(l)) {
				t.Fatalf("%+v of %+v gives %+v, want %+v", c, l, o, c.ofModel(l))
			}
		}
	}
}

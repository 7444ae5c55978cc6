package history

import (
	"math"
	"math/rand"
	"slices"
	"testing"

	"airtime/api"
)

// flows is the number of flows as DOC.md and package api state it.
const flows = 5

// peers are addresses: 0, small ones, those of nodes, a group, broadcast, and what is beyond 48 bits.
var peers = []api.Addr{0, 1, 2, 7, 9, 255, 256, 1 << 32, 2<<40 + 1, 2<<40 + 2, 3<<40 + 1, 1<<48 - 1, 1 << 48, 1 << 63, math.MaxUint64 - 1, math.MaxUint64}

// noFlows are numbers that no flow has.
var noFlows = []int{math.MinInt, math.MinInt + 1, math.MinInt32, -flows, -2, -1, flows, flows + 1, 2 * flows, 64, math.MaxInt32 + 1, math.MaxInt - 1, math.MaxInt}

// some are histories: the zero one, of no value, and of values that are possible and that are not.
var some = []api.Last{{}, {Valid: true}, {Seq: 8}, {Frag: 1}, {Seq: -1, Frag: 2}, {Valid: true, Seq: 3, Frag: 1}, {Valid: true, Seq: 4095, Frag: 15},
	{Valid: true, Seq: 4096, Frag: 16}, {Valid: true, Seq: -1, Frag: -1}, {Valid: true, Seq: math.MinInt, Frag: math.MaxInt}, {Seq: math.MaxInt, Frag: math.MinInt}}

// entry is a peer and its histories, of which those not listed are zero.
type entry struct {
	peer  api.Addr
	lasts map[int]api.Last
}

// model is what a table has, as a list in ascending order of the peers.
type model []entry

// at returns the place that the peer has, or would have, and whether it has it.
func (m model) at(peer api.Addr) (int, bool) {
	for i, e := range m {
		if e.peer >= peer {
			return i, e.peer == peer
		}
	}
	return len(m), false
}

// get is what the chapter says of Get.
func (m model) get(peer api.Addr, flow int) api.Last {
	i, ok := m.at(peer)
	if !ok || flow < 0 || flow > flows-1 {
		return api.Last{}
	}
	return m[i].lasts[flow]
}

// put is what the chapter says of Put for a table that is not nil.
func (m *model) put(peer api.Addr, flow int, l api.Last) {
	if flow < 0 || flow > flows-1 {
		return
	}
	i, ok := m.at(peer)
	if !ok {
		*m = slices.Insert(*m, i, entry{peer: peer, lasts: map[int]api.Last{}})
	}
	(*m)[i].lasts[flow] = l
}

// drop is what the chapter says of Drop.
func (m *model) drop(peer api.Addr) {
	if i, ok := m.at(peer); ok {
		*m = slices.Delete(*m, i, i+1)
	}
}

// peers is what the chapter says of Peers.
func (m model) peers() []api.Addr {
	var l []api.Addr
	for _, e := range m {
		l = append(l, e.peer)
	}
	return l
}

// wantPeers checks the list of the peers.
func wantPeers(t *testing.T, h Table, want ...api.Addr) {
	t.Helper()
	if l := h.Peers(); !slices.Equal(l, want) {
		t.Fatalf("the peers are %v, want %v", l, want)
	}
}

// wantGet checks the history of a flow.
func wantGet(t *testing.T, h Table, peer api.Addr, flow int, want api.Last) {
	t.Helper()
	if l := h.Get(peer, flow); l != want {
		t.Fatalf("Get of %d and %d gives %+v, want %+v", peer, flow, l, want)
	}
}

// wantTable checks all that a table says of its peers and of the listed ones, and that it has nothing else.
func wantTable(t *testing.T, h Table, m model) {
	t.Helper()
	wantPeers(t, h, m.peers()...)
	if len(h) != len(m) {
		t.Fatalf("the table has %d peers, want %d", len(h), len(m))
	}
	for _, peer := range append(m.peers(), peers...) {
		for flow := -1; flow <= flows; flow++ {
			wantGet(t, h, peer, flow, m.get(peer, flow))
		}
	}
	// Neither Get nor Peers has added a peer.
	wantPeers(t, h, m.peers()...)
}

// P19.2

func TestGetOfAnEmptyTable(t *testing.T) {
	for _, h := range []Table{nil, {}, make(Table, 100)} {
		for _, peer := range peers {
			for _, flow := range append([]int{0, 1, 2, 3, 4}, noFlows...) {
				wantGet(t, h, peer, flow, api.Last{})
			}
		}
		if len(h) != 0 {
			t.Fatalf("Get adds %v", h)
		}
	}
}

// The caller may have filled the table itself.
func TestGetOfAllFlows(t *testing.T) {
	a, b := [flows]api.Last{}, [flows]api.Last{}
	for i := range flows {
		a[i] = api.Last{Valid: true, Seq: 10 + i, Frag: i}
		b[i] = api.Last{Valid: i%2 == 0, Seq: -i, Frag: math.MaxInt - i}
	}
	h := Table{7: a, 9: b, math.MaxUint64: a, 0: b}
	for i := range flows {
		wantGet(t, h, 7, i, a[i])
		wantGet(t, h, 9, i, b[i])
		wantGet(t, h, math.MaxUint64, i, a[i])
		wantGet(t, h, 0, i, b[i])
		wantGet(t, h, 8, i, api.Last{})
		wantGet(t, h, 7<<32, i, api.Last{})
		wantGet(t, h, 1<<48+7, i, api.Last{})
	}
	for _, flow := range noFlows {
		for _, peer := range []api.Addr{7, 8, 9, 0, math.MaxUint64} {
			wantGet(t, h, peer, flow, api.Last{})
		}
	}
	if len(h) != 4 || h[7] != a || h[9] != b || h[math.MaxUint64] != a || h[0] != b {
		t.Errorf("Get leaves %v", h)
	}
}

// P19.3

func TestPutOfTheText(t *testing.T) {
	l := api.Last{Valid: true, Seq: 3, Frag: 1}
	h := Table{}
	h.Put(7, 1, l)
	wantGet(t, h, 7, 1, l)
	wantGet(t, h, 7, 2, api.Last{})
	wantPeers(t, h, 7)
}

// A table with every address, flow and history, each put alone.
func TestPutOfOne(t *testing.T) {
	for _, peer := range peers {
		for flow := range flows {
			for _, l := range some {
				h, m := Table{}, model{}
				h.Put(peer, flow, l)
				m.put(peer, flow, l)
				wantTable(t, h, m)
				wantGet(t, h, peer, flow, l)
				wantPeers(t, h, peer)
			}
		}
	}
}

// What was there before, of this flow, does not matter; what there is of other flows and peers stays.
func TestPutOverAnother(t *testing.T) {
	full := func(n int) (a [flows]api.Last) {
		for i := range a {
			a[i] = api.Last{Valid: true, Seq: n, Frag: i}
		}
		return a
	}
	for flow := range flows {
		for _, l := range some {
			h := Table{7: full(70), 8: full(80), 9: full(90)}
			h.Put(8, flow, l)
			want := full(80)
			want[flow] = l
			if len(h) != 3 || h[7] != full(70) || h[8] != want || h[9] != full(90) {
				t.Fatalf("Put of 8, %d and %+v leaves %v", flow, l, h)
			}
			h.Put(10, flow, l)
			var other [flows]api.Last
			other[flow] = l
			if len(h) != 4 || h[7] != full(70) || h[8] != want || h[9] != full(90) || h[10] != other {
				t.Fatalf("Put of 10, %d and %+v leaves %v", flow, l, h)
			}
		}
	}
}

func TestPutOfTheZeroHistory(t *testing.T) {
	for flow := range flows {
		h := Table{}
		h.Put(7, flow, api.Last{})
		wantPeers(t, h, 7)
		h.Put(7, flow, api.Last{Valid: true, Seq: 1})
		h.Put(7, flow, api.Last{})
		wantPeers(t, h, 7)
		wantTable(t, h, model{{peer: 7}})
	}
}

func TestPutOfNoFlow(t *testing.T) {
	l := api.Last{Valid: true, Seq: 3, Frag: 1}
	for _, flow := range noFlows {
		for _, peer := range peers {
			h := Table{}
			h.Put(peer, flow, l)
			wantTable(t, h, nil)
			h.Put(9, 4, l)
			h.Put(peer, flow, api.Last{})
			h.Put(9, flow, api.Last{Seq: 1})
			wantTable(t, h, model{{peer: 9, lasts: map[int]api.Last{4: l}}})
		}
	}
}

func TestPutInANilTable(t *testing.T) {
	var h Table
	for _, peer := range peers {
		for _, flow := range append([]int{0, 1, 2, 3, 4}, noFlows...) {
			h.Put(peer, flow, api.Last{Valid: true, Seq: 3, Frag: 1})
			h.Put(peer, flow, api.Last{})
		}
	}
	wantTable(t, h, nil)
}

// P19.4

func TestDropOfTheText(t *testing.T) {
	h := Table{}
	h.Put(7, 1, api.Last{Valid: true, Seq: 3, Frag: 1})
	h.Drop(7)
	wantGet(t, h, 7, 1, api.Last{})
	wantPeers(t, h)
}

func TestDropOfOne(t *testing.T) {
	for i, peer := range peers {
		h, m := Table{}, model{}
		for j, p := range peers {
			for flow := range flows {
				h.Put(p, flow, api.Last{Valid: true, Seq: j, Frag: flow})
				m.put(p, flow, api.Last{Valid: true, Seq: j, Frag: flow})
			}
		}
		h.Drop(peer)
		m.drop(peer)
		wantTable(t, h, m)
		for flow := range flows {
			wantGet(t, h, peer, flow, api.Last{})
		}
		wantPeers(t, h, slices.Delete(slices.Clone(peers), i, i+1)...)
		// Dropped once more, nothing happens.
		h.Drop(peer)
		wantTable(t, h, m)
		// What is put again begins with zero histories of the other flows.
		h.Put(peer, 2, api.Last{Valid: true, Seq: 77})
		m.put(peer, 2, api.Last{Valid: true, Seq: 77})
		wantTable(t, h, m)
		wantGet(t, h, peer, 1, api.Last{})
		wantGet(t, h, peer, 2, api.Last{Valid: true, Seq: 77})
	}
}

func TestDropOfNone(t *testing.T) {
	var none Table
	empty := Table{}
	h := Table{}
	h.Put(6, 1, api.Last{Valid: true})
	for _, peer := range peers {
		none.Drop(peer)
		empty.Drop(peer)
		h.Drop(peer)
	}
	wantTable(t, none, nil)
	wantTable(t, empty, nil)
	wantTable(t, h, model{{peer: 6, lasts: map[int]api.Last{1: {Valid: true}}}})
	// An empty table can be filled, also one that was emptied.
	h.Drop(6)
	wantTable(t, h, nil)
	h.Put(5, 0, api.Last{})
	wantTable(t, h, model{{peer: 5}})
}

// P19.5

func TestPeersOfTheText(t *testing.T) {
	h := Table{}
	h.Put(9, 1, api.Last{})
	h.Put(7, 1, api.Last{})
	wantPeers(t, h, 7, 9)
}

func TestPeersOfAFewTables(t *testing.T) {
	wantPeers(t, nil)
	wantPeers(t, Table{})
	wantPeers(t, Table{0: {}}, 0)
	wantPeers(t, Table{math.MaxUint64: {}}, math.MaxUint64)
	wantPeers(t, Table{1 << 63: {}, 1: {}}, 1, 1<<63)
	wantPeers(t, Table{10: {}, 9: {}, 100: {}}, 9, 10, 100)
	wantPeers(t, Table{math.MaxUint64: {}, 0: {}, 1<<48 - 1: {}, 1 << 48: {}}, 0, 1<<48-1, 1<<48, math.MaxUint64)
}

// The order of the calls does not matter: every permutation of five addresses is put, and each is dropped.
func TestPeersInEveryOrder(t *testing.T) {
	few := []api.Addr{0, 7, 9, 3 << 40, math.MaxUint64}
	var permute func(order, rest []api.Addr)
	permute = func(order, rest []api.Addr) {
		if len(rest) == 0 {
			wantPeersPut(t, order, few)
			return
		}
		for i, p := range rest {
			permute(append(slices.Clone(order), p), slices.Delete(slices.Clone(rest), i, i+1))
		}
	}
	permute(nil, few)
}

// wantPeersPut puts peers in an order, some of them twice, and drops them in this order.
func wantPeersPut(t *testing.T, order, sorted []api.Addr) {
	t.Helper()
	h := Table{}
	for i, p := range order {
		h.Put(p, i%flows, api.Last{Seq: i})
		h.Put(order[0], i%flows, api.Last{Seq: -i})
	}
	left := slices.Clone(sorted)
	for _, p := range order {
		wantPeers(t, h, left...)
		h.Drop(p)
		i := slices.Index(left, p)
		left = slices.Delete(left, i, i+1)
	}
	wantPeers(t, h)
}

func TestPeersOfManyPeers(t *testing.T) {
	r := rand.New(rand.NewSource(5))
	for _, n := range []int{1, 2, 3, 10, 100, 1000, 5000} {
		h := Table{}
		seen := map[api.Addr]bool{}
		var want []api.Addr
		for range n {
			p := api.Addr(r.Uint64() >> r.Intn(64))
			if !seen[p] {
				seen[p] = true
				want = append(want, p)
			}
			h.Put(p, r.Intn(flows), some[r.Intn(len(some))])
		}
		slices.Sort(want)
		// A map is walked in another order each time.
		for range 3 {
			wantPeers(t, h, want...)
		}
	}
}

func TestPeersIsNewMemory(t *testing.T) {
	h := Table{}
	for _, p := range []api.Addr{9, 7, 8} {
		h.Put(p, 1, api.Last{Valid: true, Seq: int(p)})
	}
	one, two := h.Peers(), h.Peers()
	for i := range one {
		one[i] = 100
	}
	// Nor may a list be where another one would grow.
	_ = append(one, 200)
	one = append(one[:1], 300)
	if !slices.Equal(two, []api.Addr{7, 8, 9}) {
		t.Errorf("another list of peers became %v", two)
	}
	wantPeers(t, h, 7, 8, 9)
	two[0] = 6
	h.Put(1, 1, api.Last{})
	h.Drop(8)
	if !slices.Equal(one, []api.Addr{100, 300}) || !slices.Equal(two, []api.Addr{6, 8, 9}) {
		t.Errorf("Put and Drop changed the lists to %v and %v", one, two)
	}
	wantPeers(t, h, 1, 7, 9)
	wantGet(t, h, 7, 1, api.Last{Valid: true, Seq: 7})
	wantGet(t, h, 6, 1, api.Last{})
}

// P19.6 (peers and flows)

// call is an operation on a table.
type call struct {
	drop bool
	peer api.Addr
	flow int
	l    api.Last
}

// wantCalls checks a table after each of the calls.
func wantCalls(t *testing.T, calls []call) {
	t.Helper()
	h, m := Table{}, model{}
	for i, c := range calls {
		if c.drop {
			h.Drop(c.peer)
			m.drop(c.peer)
		} else {
			h.Put(c.peer, c.flow, c.l)
			m.put(c.peer, c.flow, c.l)
		}
		// In all shorter sequences the call before this one was the last one.
		if i == len(calls)-1 {
			wantTable(t, h, m)
		}
	}
}

// All sequences of up to three calls for two peers, with flows at the limits.
func TestAllSequencesOfCalls(t *testing.T) {
	var few []call
	for _, peer := range []api.Addr{7, 9} {
		few = append(few, call{drop: true, peer: peer})
		for _, flow := range []int{-1, 0, 1, flows - 1, flows} {
			few = append(few, call{peer: peer, flow: flow, l: api.Last{Valid: true, Seq: 1}})
			few = append(few, call{peer: peer, flow: flow})
		}
	}
	for _, a := range few {
		wantCalls(t, []call{a})
		for _, b := range few {
			wantCalls(t, []call{a, b})
			for _, c := range few {
				wantCalls(t, []call{a, b, c})
			}
		}
	}
}

func TestSequencesOfCallsAtRandom(t *testing.T) {
	r := rand.New(rand.NewSource(6))
	for range 100 {
		h, m := Table{}, model{}
		few := 1 + r.Intn(len(peers))
		for range 200 {
			peer, flow, l := peers[r.Intn(few)], r.Intn(flows+2)-1, some[r.Intn(len(some))]
			if r.Intn(50) == 0 {
				flow = noFlows[r.Intn(len(noFlows))]
			}
			if r.Intn(6) == 0 {
				h.Drop(peer)
				m.drop(peer)
			} else {
				h.Put(peer, flow, l)
				m.put(peer, flow, l)
			}
			wantTable(t, h, m)
		}
	}
}

// Values of several peers and flows arrive mixed; each flow recognizes the value that it recorded last, and no other.
func TestNotesOfManyFlows(t *testing.T) {
	type flow struct {
		peer api.Addr
		flow int
	}
	r := rand.New(rand.NewSource(7))
	h := Table{}
	latest := map[flow]value{}
	for range 20000 {
		f := flow{peer: peers[r.Intn(4)], flow: r.Intn(flows)}
		if r.Intn(100) == 0 {
			h.Drop(f.peer)
			for i := range flows {
				delete(latest, flow{peer: f.peer, flow: i})
			}
		}
		v := value{seq: r.Intn(2), frag: r.Intn(2)}
		before, known := latest[f]
		want := fresh
		if known && before == v {
			want = again
		}
		l, n := Note(h.Get(f.peer, f.flow), v.seq, v.frag)
		if n != want {
			t.Fatalf("%+v of %+v gives %d, want %d: the value before was %+v (%t)", v, f, n, want, before, known)
		}
		h.Put(f.peer, f.flow, l)
		latest[f] = v
	}
}

func TestTablesAreIndependent(t *testing.T) {
	one, two := Table{}, Table{}
	one.Put(7, 1, some[5])
	wantTable(t, two, nil)
	two.Put(7, 2, some[6])
	two.Drop(9)
	wantTable(t, one, model{{peer: 7, lasts: map[int]api.Last{1: some[5]}}})
	one.Drop(7)
	wantTable(t, two, model{{peer: 7, lasts: map[int]api.Last{2: some[6]}}})
	wantTable(t, one, nil)
}

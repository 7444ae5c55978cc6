package window

import (
	"math"
	"math/rand"
	"slices"
	"testing"

	"airtime/api"
)

// fewCalls are calls with numbers before, in and behind the window, for all short sequences of calls.
func fewCalls(start int) []call {
	l := []call{{name: "Put", n: 1, data: "a"}, {name: "Put", n: 2, data: octets(mostOctets + 1)}, {name: "Confirm"}, {name: "Reset"},
		{name: "Resize", n: 0}, {name: "Resize", n: 3}, {name: "Resize", n: 65},
		{name: "Acked", n: start, bits: 1}, {name: "Acked", n: start, bits: 2}, {name: "Acked", n: start - 1, bits: 9}, {name: "Acked", n: start + 1, bits: allBits}}
	for _, limit := range []int{1, 2} {
		l = append(l, call{name: "Missed", n: limit, seqs: of(start)}, call{name: "Missed", n: limit, seqs: of(start+1, start+2+numbers)})
	}
	return l
}

// P22.12: every sequence of four calls, of each of which the results are what the chapter says.

func TestAllShortSequences(t *testing.T) {
	for _, start := range []int{0, 4094} {
		for _, size := range []int{0, 1, 2, 4} {
			l := fewCalls(start)
			var extend func(s State, left int)
			extend = func(s State, left int) {
				for _, c := range l {
					o := c.ofModel(modelOf(s))
					got := c.of(s)
					if !got.equal(o) || Check(got.s) != api.OK || Room(got.s) != modelOf(o.s).room() {
						t.Fatalf("%+v of %+v gives %+v, want %+v", c.brief(), s, got, o)
					}
					if left > 1 && o.e == 0 {
						extend(got.s, left-1)
					}
				}
			}
			extend(State{Next: start, Size: size}, 4)
			extend(holding(start, size, "o"), 4)
			if size > 1 {
				extend(asking(holding(start, size, "oo")), 3)
			}
			if size == 4 {
				extend(holding(start, size, "o-o"), 3)
				extend(holding(start, size, "odoo"), 3)
			}
		}
	}
}

// R5: the states that a call returned are given to several further calls; what they have in their lists stays.
func TestStatesStayAsTheyWere(t *testing.T) {
	l := fewCalls(4094)
	var extend func(s State, left int)
	extend = func(s State, left int) {
		was := outcome{s: s}.copied().s
		var results, copies []outcome
		for _, c := range l {
			o := c.of(s)
			results = append(results, o)
			copies = append(copies, o.copied())
		}
		for i, o := range results {
			if left > 1 {
				extend(o.s, left-1)
			}
			if !same(s, was) || !o.equal(copies[i]) {
				t.Fatalf("%+v of %+v gave %+v, and later calls changed this to %+v", l[i].brief(), was, copies[i], o)
			}
		}
		for i, o := range results {
			if !o.equal(copies[i]) {
				t.Fatalf("%+v of %+v gave %+v, and calls with other states changed this to %+v", l[i].brief(), was, copies[i], o)
			}
		}
	}
	for _, size := range []int{0, 2, 4} {
		extend(State{Next: 4094, Size: size}, 4)
		extend(asking(holding(4094, size, "o")), 3)
	}
}

// run is a sequence of calls. Its numbers are not counted modulo 4096 but on and on, and each packet has the number
// that it gets as its identifier.
type run struct {
	s       State
	size    int
	asked   bool
	next    int
	open    map[int]int
	done    map[int]bool
	removed map[int]bool
	tries   int
}

// newRun begins a run at a number.
func newRun(t *testing.T, next, size int) *run {
	t.Helper()
	x := &run{s: New(next), next: next, open: map[int]int{}, done: map[int]bool{}, removed: map[int]bool{}}
	x.resize(t, size)
	return x
}

// start is the first number whose packet is open, or next.
func (x *run) start() int {
	n := x.next
	for m := range x.open {
		n = min(n, m)
	}
	return n
}

// took checks that the new state is valid, and that its list has each packet that was put, was neither completed nor
// given up, and is not Done.
func (x *run) took(t *testing.T, s State) {
	t.Helper()
	x.s = s
	wantCheck(t, s, api.OK)
	width := max(x.size, 1)
	if used := steps(Start(s), s.Next); used > width {
		t.Fatalf("%d numbers of a window of %d are used", used, width)
	}
	if s.Size != x.size || s.Request != x.asked || s.Next != x.next%numbers || Start(s) != x.start()%numbers {
		t.Fatalf("the state is %+v, want one of the size %d from %d to %d", brief(s), x.size, x.start(), x.next)
	}
	seen := 0
	for _, p := range s.List {
		tries, ok := x.open[p.ID]
		if p.Seq != p.ID%numbers || !p.Done && (!ok || p.Tries != tries) || p.Done && !x.done[p.ID] {
			t.Fatalf("%+v is in the list; open with %d tries: %v; completed: %v", p, tries, ok, x.done[p.ID])
		}
		if !p.Done {
			seen++
		}
	}
	if seen != len(x.open) {
		t.Fatalf("%d packets that are not Done are in the list, want %d", seen, len(x.open))
	}
	room := width - (x.next - x.start())
	if x.asked {
		room = 0
	}
	wantRoom(t, s, room)
}

// put puts a packet, if there is room.
func (x *run) put(t *testing.T) {
	t.Helper()
	room := !x.asked && x.next-x.start() < max(x.size, 1)
	s, seq, e := Put(x.s, x.next, "data")
	if !room {
		if e != api.ErrFull {
			t.Fatalf("Put into a window of %d that is full gives %d", x.size, e)
		}
		return
	}
	if e != api.OK || seq != x.next%numbers {
		t.Fatalf("Put of %d gives %d and %d", x.next, seq, e)
	}
	x.open[x.next] = 0
	x.next++
	x.took(t, s)
}

// ended checks that packets end once, and notes that they have.
func (x *run) ended(t *testing.T, ids []int, where map[int]bool) {
	t.Helper()
	for _, id := range ids {
		if _, ok := x.open[id]; !ok {
			t.Fatalf("%d ends, but it is not open; completed: %v; given up: %v", id, x.done[id], x.removed[id])
		}
		delete(x.open, id)
		where[id] = true
	}
}

// acked acknowledges packets by a map from a number on.
func (x *run) acked(t *testing.T, start int, bits uint64) {
	t.Helper()
	var ids []int
	for d := range mapBits {
		if _, ok := x.open[start+d]; ok && bits>>d&1 == 1 {
			ids = append(ids, start+d)
		}
	}
	s, got := Acked(x.s, start%numbers, bits)
	if !slices.Equal(got, ids) {
		t.Fatalf("Acked from %d on with %x completes %d, want %d", start, bits, got, ids)
	}
	x.ended(t, ids, x.done)
	x.took(t, s)
}

// missed counts a failed try of packets.
func (x *run) missed(t *testing.T, seqs []int, limit int) {
	t.Helper()
	var ids, given []int
	for _, n := range seqs {
		given = append(given, n%numbers)
		if tries, ok := x.open[n]; ok && !slices.Contains(ids, n) {
			x.open[n] = tries + 1
			ids = append(ids, n)
		}
	}
	slices.Sort(ids)
	ids = slices.DeleteFunc(ids, func(n int) bool { return x.open[n] < limit })
	s, got := Missed(x.s, given, limit)
	if !slices.Equal(got, ids) {
		t.Fatalf("Missed of %d with the limit %d gives up %d, want %d", seqs, limit, got, ids)
	}
	x.asked = x.asked || len(ids) > 0 && x.size > 0
	x.ended(t, ids, x.removed)
	x.took(t, s)
}

// confirm confirms.
func (x *run) confirm(t *testing.T) {
	t.Helper()
	x.asked = false
	x.took(t, Confirm(x.s))
}

// resize changes the size, if that is possible.
func (x *run) resize(t *testing.T, size int) {
	t.Helper()
	s, e := Resize(x.s, size)
	if len(x.open) > 0 || x.asked {
		if e != api.ErrState {
			t.Fatalf("Resize of %+v gives %d", brief(x.s), e)
		}
		return
	}
	if e != api.OK {
		t.Fatalf("Resize of %+v to %d gives %d", brief(x.s), size, e)
	}
	x.size = size
	x.took(t, s)
}

// reset gives up everything.
func (x *run) reset(t *testing.T) {
	t.Helper()
	var ids []int
	for n := range x.open {
		ids = append(ids, n)
	}
	slices.Sort(ids)
	s, got := Reset(x.s)
	if !slices.Equal(got, ids) {
		t.Fatalf("Reset gives up %d, want %d", got, ids)
	}
	x.ended(t, ids, x.removed)
	x.size, x.asked = 0, false
	x.took(t, s)
}

// over checks that each packet was completed or given up, and not both.
func (x *run) over(t *testing.T, first int) {
	t.Helper()
	for n := first; n < x.next; n++ {
		if x.done[n] == x.removed[n] {
			t.Fatalf("the packet %d was completed: %v, and given up: %v", n, x.done[n], x.removed[n])
		}
	}
	if len(x.open) > 0 || len(x.done)+len(x.removed) != x.next-first {
		t.Fatalf("of %d packets, %d are open, %d were completed and %d given up", x.next-first, len(x.open), len(x.done), len(x.removed))
	}
}

// Packets that are acknowledged at once, through the whole range of numbers and on.
func TestPacketsThatAllArrive(t *testing.T) {
	for _, size := range []int{0, 1, 2, 3, 63, 64} {
		x := newRun(t, 4000, size)
		for x.next < 14000 {
			for range max(size, 1) {
				x.put(t)
			}
			x.put(t)
			x.acked(t, x.start(), allBits)
			if len(x.open) > 0 {
				t.Fatalf("%d packets are left", len(x.open))
			}
		}
		x.over(t, 4000)
	}
}

// Without an agreement, each packet is completed by the first bit of a map that begins with it.
func TestPacketsWithoutAnAgreement(t *testing.T) {
	x := newRun(t, 0, 0)
	for n := range 3 * numbers {
		x.put(t)
		x.put(t)
		x.missed(t, []int{n}, 2)
		s, ids := Acked(x.s, Start(x.s), 1)
		if !slices.Equal(ids, []int{n}) || !same(s, State{Next: (n + 1) % numbers}) {
			t.Fatalf("Acked of %+v completes %d and leaves %+v", x.s, ids, s)
		}
		x.acked(t, n, 1)
	}
	x.over(t, 0)
}

// One packet in several is acknowledged only after some failed tries, so that the window waits for it or gives it up.
func TestPacketsThatAreLate(t *testing.T) {
	for _, size := range []int{1, 2, 3, 8, 63, 64} {
		for period := 2; period <= 70; period += 17 {
			for limit := 2; limit <= 4; limit++ {
				x := newRun(t, 4001, size)
				for x.next < 5000 {
					for range size {
						x.put(t)
					}
					var late []int
					for n := range x.open {
						if n%period == 0 && x.open[n] < 2 {
							late = append(late, n)
						}
					}
					bits := uint64(allBits)
					for _, n := range late {
						bits &^= 1 << (n - x.start())
					}
					x.acked(t, x.start(), bits)
					x.missed(t, late, limit)
					x.confirm(t)
				}
				x.acked(t, x.start(), allBits)
				x.over(t, 4001)
				if (len(x.removed) > 0) != (limit == 2) {
					t.Fatalf("%d packets were given up with the limit %d", len(x.removed), limit)
				}
			}
		}
	}
}

// Calls of all sorts, with sizes that change whenever they can.
func TestRunsAtRandom(t *testing.T) {
	r := rand.New(rand.NewSource(2212))
	for range 150 {
		first := numbers + r.Intn(numbers)
		x := newRun(t, first, r.Intn(mostSize+1))
		limit := 1 + r.Intn(4)
		for range 600 {
			around := func() int { return x.start() + r.Intn(max(x.size, 1)+6) - 3 }
			switch k := r.Intn(100); {
			case k < 50:
				x.put(t)
			case k < 60:
				x.acked(t, around()-r.Intn(40), r.Uint64())
			case k < 68:
				x.acked(t, x.start(), r.Uint64()|r.Uint64())
			case k < 88:
				var seqs []int
				for range r.Intn(12) {
					seqs = append(seqs, around())
				}
				x.missed(t, seqs, limit)
			case k < 93:
				x.confirm(t)
			case k < 99:
				x.resize(t, r.Intn(mostSize+1))
			default:
				x.reset(t)
				x.resize(t, r.Intn(mostSize+1))
			}
		}
		x.reset(t)
		x.over(t, first)
	}
}

// Acknowledgements that are repeated, in whole or in part, complete nothing again.
func TestRepeatedAcknowledgements(t *testing.T) {
	r := rand.New(rand.NewSource(12))
	for _, size := range []int{1, 4, 64} {
		x := newRun(t, 3000, size)
		for x.next < 12000 {
			for range 1 + r.Intn(size) {
				x.put(t)
			}
			start, bits := x.start(), r.Uint64()
			x.acked(t, start, bits)
			for range 3 {
				s, ids := Acked(x.s, start, bits&r.Uint64())
				if !same(s, x.s) || len(ids) > 0 {
					t.Fatalf("a repeated acknowledgement completes %d", ids)
				}
			}
		}
		x.acked(t, x.start(), allBits)
		x.over(t, 3000)
	}
}

// R1: states that are not valid give results of which nothing is promised, and the calls change nothing.

func TestStatesThatAreNotValid(t *testing.T) {
	r := rand.New(rand.NewSource(1))
	number := func() int {
		switch r.Intn(3) {
		case 0:
			return ints[r.Intn(len(ints))]
		case 1:
			return int(r.Uint64())
		}
		return r.Intn(70)
	}
	for range 20000 {
		s := State{Next: number(), Size: number(), Request: r.Intn(3) == 0}
		for range r.Intn(20) {
			s.List = append(s.List, api.Sent{ID: number(), Seq: number(), Tries: number(), Done: r.Intn(2) == 0, Data: octets(r.Intn(3))})
		}
		wantCheck(t, s, checkOf(s))
		given, memory := roomy(s)
		before := slices.Clone(memory)
		for _, c := range []call{{name: "Put", n: number()}, {name: "Put", n: number(), data: octets(mostOctets + 1)}, {name: "Acked", n: number(), bits: r.Uint64()},
			{name: "Missed", n: number(), seqs: []int{number(), number(), number()}}, {name: "Confirm"}, {name: "Resize", n: number()}, {name: "Reset"}} {
			c.of(given)
		}
		Start(given)
		Room(given)
		Due(given, number())
		if !slices.Equal(memory, before) {
			t.Fatalf("calls with %+v change it", brief(s))
		}
	}
}

// Many packets with one number, or with all of them, do not make a call endless.
func TestStatesWithTooMuch(t *testing.T) {
	for _, next := range []int{0, 4095, -1, math.MinInt, math.MaxInt} {
		for _, size := range []int{0, 64, math.MinInt} {
			one, each := State{Next: next, Size: size}, State{Next: next, Size: size}
			for n := range numbers + 100 {
				one.List = append(one.List, gone(n, next))
				each.List = append(each.List, sent(n, n))
			}
			for _, s := range []State{one, each} {
				for _, c := range append(fewCalls(next), fewCalls(4094)...) {
					c.of(s)
				}
				for _, most := range []int{math.MinInt, -1, 0, 5, math.MaxInt} {
					Due(s, most)
				}
				Check(s)
				Start(s)
				Room(s)
			}
		}
	}
}

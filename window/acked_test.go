package window

import (
	"math"
	"math/rand"
	"slices"
	"testing"

	"airtime/api"
)

// wantAcked checks both results of Acked.
func wantAcked(t *testing.T, s State, start int, bits uint64, n State, ids ...int) {
	t.Helper()
	want(t, s, call{name: "Acked", n: start, bits: bits}, outcome{s: n, ids: ids})
	wantModel(t, s, call{name: "Acked", n: start, bits: bits})
}

// wantMissed checks both results of Missed.
func wantMissed(t *testing.T, s State, seqs []int, limit int, n State, ids ...int) {
	t.Helper()
	want(t, s, call{name: "Missed", n: limit, seqs: seqs}, outcome{s: n, ids: ids})
	wantModel(t, s, call{name: "Missed", n: limit, seqs: seqs})
}

// of is a short way to write numbers.
func of(seqs ...int) []int {
	return seqs
}

// allBits is a map with all bits.
const allBits = math.MaxUint64

// P22.7

func TestAckedOfTheText(t *testing.T) {
	s, ids := Acked(written(6, 4, sent(13, 3), sent(14, 4), sent(15, 5)), 3, 5)
	if !slices.Equal(ids, []int{13, 15}) || Start(s) != 4 {
		t.Errorf("Acked(s, 3, 5) gives %+v and %d", s, ids)
	}
}

func TestAckedWrittenOut(t *testing.T) {
	a, b, c, d := tried(1, 4094, 2), api.Sent{ID: 2, Seq: 4095, Data: "b"}, sent(3, 0), sent(4, 1)
	doneB, doneC, doneD := api.Sent{ID: 2, Seq: 4095, Done: true, Data: "b"}, gone(3, 0), gone(4, 1)
	s := written(2, 4, a, b, c, d)
	wantAcked(t, s, 4094, 0, s)
	wantAcked(t, s, 4094, 1, written(2, 4, b, c, d), 1)
	wantAcked(t, s, 4094, 2, written(2, 4, a, doneB, c, d), 2)
	wantAcked(t, s, 4094, 3, written(2, 4, c, d), 1, 2)
	wantAcked(t, s, 4094, 4, written(2, 4, a, b, doneC, d), 3)
	wantAcked(t, s, 4094, 5, written(2, 4, b, doneC, d), 1, 3)
	wantAcked(t, s, 4094, 6, written(2, 4, a, doneB, doneC, d), 2, 3)
	wantAcked(t, s, 4094, 8, written(2, 4, a, b, c, doneD), 4)
	wantAcked(t, s, 4094, 15, written(2, 4), 1, 2, 3, 4)
	wantAcked(t, s, 4094, allBits, written(2, 4), 1, 2, 3, 4)
	wantAcked(t, s, 4094, allBits-15, s)
	// Starts before and behind the start of the state.
	wantAcked(t, s, 4093, 1, s)
	wantAcked(t, s, 4093, 4, written(2, 4, a, doneB, c, d), 2)
	wantAcked(t, s, 4093, 2, written(2, 4, b, c, d), 1)
	wantAcked(t, s, 4095, 1, written(2, 4, a, doneB, c, d), 2)
	wantAcked(t, s, 4095, allBits, written(2, 4, a, doneB, doneC, doneD), 2, 3, 4)
	wantAcked(t, s, 0, 2, written(2, 4, a, b, c, doneD), 4)
	wantAcked(t, s, 1, 1, written(2, 4, a, b, c, doneD), 4)
	wantAcked(t, s, 2, allBits, s)
	wantAcked(t, s, 2048, allBits, s)
	// Bit 63 stands for the number 63 steps behind start.
	wantAcked(t, s, 4031, 1<<63, written(2, 4, b, c, d), 1)
	wantAcked(t, s, 4031, allBits, written(2, 4, b, c, d), 1)
	wantAcked(t, s, 4030, allBits, s)
	wantAcked(t, s, 4032, 1<<63, written(2, 4, a, doneB, c, d), 2)
	wantAcked(t, s, 4034, 1<<63, written(2, 4, a, b, c, doneD), 4)
	wantAcked(t, s, 4034, allBits, written(2, 4), 1, 2, 3, 4)
	wantAcked(t, s, 4035, 1<<63, s)
	// Starts are taken modulo 4096.
	wantAcked(t, s, -2, 3, written(2, 4, c, d), 1, 2)
	wantAcked(t, s, -4098, 3, written(2, 4, c, d), 1, 2)
	wantAcked(t, s, 8190, 3, written(2, 4, c, d), 1, 2)
	wantAcked(t, s, 4096, 2, written(2, 4, a, b, c, doneD), 4)
	wantAcked(t, s, -4096, 2, written(2, 4, a, b, c, doneD), 4)
	wantAcked(t, s, -65, 1<<63, written(2, 4, b, c, d), 1)
	wantAcked(t, s, math.MaxInt-1, 3, written(2, 4, c, d), 1, 2)
	wantAcked(t, s, math.MaxInt, 1, written(2, 4, a, doneB, c, d), 2)
	wantAcked(t, s, math.MinInt, 1, written(2, 4, a, b, doneC, d), 3)
	wantAcked(t, s, math.MinInt+1, 1, written(2, 4, a, b, c, doneD), 4)
}

// Packets that are Done do not become Done again, and are removed with those before them.
func TestAckedOfPacketsThatAreDone(t *testing.T) {
	a, b, c, d := sent(1, 4094), gone(2, 4095), gone(3, 1), sent(4, 2)
	s := written(3, 8, a, b, c, d)
	wantAcked(t, s, 4095, 1, s)
	wantAcked(t, s, 4095, 5, s)
	wantAcked(t, s, 4095, 2, s)
	wantAcked(t, s, 4095, allBits, written(3, 8, a, b, c, gone(4, 2)), 4)
	wantAcked(t, s, 4094, 1, written(3, 8, d), 1)
	wantAcked(t, s, 4094, 3, written(3, 8, d), 1)
	wantAcked(t, s, 4094, allBits, written(3, 8), 1, 4)
	wantAcked(t, asking(s), 4094, 1, asking(written(3, 8, d)), 1)
	wantAcked(t, asking(s), 4094, allBits, asking(written(3, 8)), 1, 4)
	wantAcked(t, written(3, 8), 0, allBits, written(3, 8))
	wantAcked(t, State{}, 0, allBits, State{})
	// Identifiers are in the order of the list, also equal ones.
	wantAcked(t, written(6, 4, sent(9, 3), sent(-5, 4), sent(9, 5)), 3, allBits, written(6, 4), 9, -5, 9)
}

func TestAckedWithEveryBit(t *testing.T) {
	for _, start := range starts {
		for _, n := range []int{1, 2, 63, 64} {
			w := ""
			for range n {
				w += "o"
			}
			s := holding(start, mostSize, w)
			for bit := range mapBits {
				for _, d := range []int{-64, -63, -1, 0, 1, 63, 64} {
					o := wantModel(t, s, call{name: "Acked", n: start + d, bits: 1 << bit})
					if i := d + bit; 0 <= i && i < n && (len(o.ids) != 1 || o.ids[0] != 100+i) || (i < 0 || i >= n) && len(o.ids) > 0 {
						t.Fatalf("the model completes %d with the bit %d at %d", o.ids, bit, d)
					}
				}
			}
		}
	}
}

// All sets of bits for all small states, from numbers before, at and behind their start.
func TestAckedWithAllSmallSets(t *testing.T) {
	for _, start := range []int{0, 4094} {
		for size := 0; size <= 5; size++ {
			for _, w := range words(max(size, 1)) {
				s := holding(start, size, w)
				for d := -2; d <= len(w); d++ {
					for bits := range uint64(1 << (len(w) + 2)) {
						wantModel(t, s, call{name: "Acked", n: after(start, d), bits: bits})
					}
				}
			}
		}
	}
}

func TestAckedOfManyStates(t *testing.T) {
	sets := []uint64{0, 1, 1 << 63, allBits, allBits - 1, 0x5555555555555555, 0xf0f0f0f0f0f0f0f0}
	for _, s := range append(small(3), large()...) {
		for _, d := range []int{-4096, -64, -63, -1, 0, 1, 40, 63, 64, 2048} {
			for _, bits := range sets {
				wantModel(t, s, call{name: "Acked", n: Start(s) + d, bits: bits})
			}
		}
	}
}

func TestAckedFromAllNumbers(t *testing.T) {
	for _, s := range []State{holding(4090, 0, "o"), holding(4094, 8, "oo-do"), holding(0, 64, "o-o-dodo")} {
		for start := -numbers - 100; start < 2*numbers+100; start++ {
			wantModel(t, s, call{name: "Acked", n: start, bits: allBits})
			wantModel(t, s, call{name: "Acked", n: start, bits: 1})
		}
		for _, start := range ints {
			wantModel(t, s, call{name: "Acked", n: start, bits: allBits})
		}
	}
}

func TestAckedAtRandom(t *testing.T) {
	r := rand.New(rand.NewSource(7))
	for range 20000 {
		s := randomState(r)
		wantModel(t, s, call{name: "Acked", n: Start(s) + r.Intn(140) - 70, bits: r.Uint64() | r.Uint64()})
	}
}

// P22.8

func TestMissedOfTheText(t *testing.T) {
	s, ids := Missed(written(5, 8, sent(13, 3), sent(14, 4)), []int{3}, 1)
	if !slices.Equal(ids, []int{13}) || Start(s) != 4 || !s.Request {
		t.Errorf("Missed of 3 gives %+v and %d", s, ids)
	}
}

func TestMissedWrittenOut(t *testing.T) {
	a, b, c, d := sent(1, 4094), api.Sent{ID: 2, Seq: 4095, Tries: 1, Data: "b"}, tried(3, 0, 2), tried(4, 1, 5)
	b2, c3, d6 := api.Sent{ID: 2, Seq: 4095, Tries: 2, Data: "b"}, tried(3, 0, 3), tried(4, 1, 6)
	s := written(2, 4, a, b, c, d)
	wantMissed(t, s, nil, 0, s)
	wantMissed(t, s, nil, math.MinInt, s)
	wantMissed(t, s, of(), 3, s)
	wantMissed(t, s, of(4094), 2, written(2, 4, tried(1, 4094, 1), b, c, d))
	wantMissed(t, s, of(4095), 3, written(2, 4, a, b2, c, d))
	wantMissed(t, s, of(4094, 4095, 0, 1), 100, written(2, 4, tried(1, 4094, 1), b2, c3, d6))
	// Limits at and around the tries.
	wantMissed(t, s, of(0), 4, written(2, 4, a, b, c3, d))
	wantMissed(t, s, of(0), 3, asking(written(2, 4, a, b, d)), 3)
	wantMissed(t, s, of(0), 2, asking(written(2, 4, a, b, d)), 3)
	wantMissed(t, s, of(0), 1, asking(written(2, 4, a, b, d)), 3)
	wantMissed(t, s, of(0), 0, asking(written(2, 4, a, b, d)), 3)
	wantMissed(t, s, of(0), -1, asking(written(2, 4, a, b, d)), 3)
	wantMissed(t, s, of(0), math.MinInt, asking(written(2, 4, a, b, d)), 3)
	wantMissed(t, s, of(0), math.MaxInt, written(2, 4, a, b, c3, d))
	// Those whose number is not there stay, whatever their tries are.
	wantMissed(t, s, of(4095), 1, asking(written(2, 4, a, c, d)), 2)
	wantMissed(t, s, of(4094, 4095, 0), 3, asking(written(2, 4, tried(1, 4094, 1), b2, d)), 3)
	wantMissed(t, s, of(0, 4095), 2, asking(written(2, 4, a, d)), 2, 3)
	wantMissed(t, s, of(4094), 1, asking(written(2, 4, b, c, d)), 1)
	wantMissed(t, s, of(1, 0, 4095, 4094), 1, asking(written(2, 4)), 1, 2, 3, 4)
	// Once for each packet, however often its number is there.
	wantMissed(t, s, of(0, 0), 4, written(2, 4, a, b, c3, d))
	wantMissed(t, s, of(0, 4096, -4096, 0, 8192), 4, written(2, 4, a, b, c3, d))
	wantMissed(t, s, of(0, 0, 4095, 0), 3, asking(written(2, 4, a, b2, d)), 3)
	// Numbers that are not there, and those that are congruent to one that is.
	wantMissed(t, s, of(2, 3, 4093, 2048, 64), 0, s)
	wantMissed(t, s, of(-1), 9, written(2, 4, a, b2, c, d))
	wantMissed(t, s, of(-2), 9, written(2, 4, tried(1, 4094, 1), b, c, d))
	wantMissed(t, s, of(4096), 9, written(2, 4, a, b, c3, d))
	wantMissed(t, s, of(4097), 9, written(2, 4, a, b, c, d6))
	wantMissed(t, s, of(4098, -3), 0, s)
	wantMissed(t, s, of(math.MaxInt), 9, written(2, 4, a, b2, c, d))
	wantMissed(t, s, of(math.MinInt), 9, written(2, 4, a, b, c3, d))
	wantMissed(t, s, of(math.MinInt+2, math.MaxInt-2), 0, s)
}

func TestMissedOfPacketsThatAreDone(t *testing.T) {
	a, b, c, d := sent(1, 4094), gone(2, 4095), gone(3, 1), sent(4, 2)
	s := written(3, 8, a, b, c, d)
	wantMissed(t, s, of(4095), 0, s)
	wantMissed(t, s, of(4095, 0, 1), 1, s)
	wantMissed(t, s, of(4095, 0, 1), 100, s)
	wantMissed(t, s, of(4094), 1, asking(written(3, 8, d)), 1)
	wantMissed(t, s, of(4094, 4095), 1, asking(written(3, 8, d)), 1)
	wantMissed(t, s, of(2), 1, asking(written(3, 8, a, b, c)), 4)
	wantMissed(t, s, of(2, 4094), 1, asking(written(3, 8)), 1, 4)
	wantMissed(t, s, of(2, 4094), 2, written(3, 8, tried(1, 4094, 1), b, c, tried(4, 2, 1)))
	// Identifiers are in the order of the list, also equal ones.
	wantMissed(t, written(6, 4, sent(9, 3), sent(-5, 4), sent(9, 5)), of(5, 4, 3), 1, asking(written(6, 4)), 9, -5, 9)
}

// Request is set only in an agreement, only if a packet was removed, and never reset.
func TestMissedSetsRequest(t *testing.T) {
	a := sent(1, 3)
	wantMissed(t, written(4, 0, a), of(3), 1, written(4, 0), 1)
	wantMissed(t, written(4, 1, a), of(3), 1, asking(written(4, 1)), 1)
	wantMissed(t, written(4, 64, a), of(3), 1, asking(written(4, 64)), 1)
	wantMissed(t, written(4, 0, a), of(3), 2, written(4, 0, tried(1, 3, 1)))
	wantMissed(t, written(4, 1, a), of(3), 2, written(4, 1, tried(1, 3, 1)))
	wantMissed(t, asking(written(4, 0, a)), of(3), 1, asking(written(4, 0)), 1)
	wantMissed(t, asking(written(4, 0, a)), of(3), 2, asking(written(4, 0, tried(1, 3, 1))))
	wantMissed(t, asking(written(4, 8, a)), of(3), 1, asking(written(4, 8)), 1)
	wantMissed(t, asking(written(4, 8, a)), of(3), 2, asking(written(4, 8, tried(1, 3, 1))))
	wantMissed(t, asking(written(4, 8, a)), of(4), 0, asking(written(4, 8, a)))
	wantMissed(t, asking(written(4, 8)), of(4), 0, asking(written(4, 8)))
	wantMissed(t, written(4, 8), of(3, 4), 0, written(4, 8))
	wantMissed(t, State{}, of(0), 0, State{})
}

// Tries does not increase above 2^30; one that is greater already is left as it is.
func TestMissedWithManyTries(t *testing.T) {
	const top = 1 << 30
	for _, c := range []struct{ tries, want int }{
		{0, 1}, {1, 2}, {top - 3, top - 2}, {top - 2, top - 1}, {top - 1, top}, {top, top}, {top + 1, top + 1}, {2 * top, 2 * top},
		{math.MaxInt - 1, math.MaxInt - 1}, {math.MaxInt, math.MaxInt},
	} {
		for _, size := range []int{0, 1, 8} {
			s := written(4, size, tried(1, 3, c.tries))
			left := written(4, size, tried(1, 3, c.want))
			empty := State{Next: 4, Size: size, Request: size > 0}
			for _, limit := range []int{math.MinInt, -1, 0, 1, 2, top - 2, top - 1, top, top + 1, top + 2, 2 * top, 2*top + 1, math.MaxInt - 1, math.MaxInt} {
				if c.want >= limit {
					wantMissed(t, s, of(3), limit, empty, 1)
				} else {
					wantMissed(t, s, of(3), limit, left)
				}
				wantMissed(t, s, of(2, 4), limit, s)
			}
		}
	}
}

// All sets of numbers for all small states, with limits at and around their tries.
func TestMissedWithAllSmallSets(t *testing.T) {
	for _, start := range []int{0, 4094} {
		for size := 0; size <= 4; size++ {
			for _, w := range words(max(size, 1)) {
				s := holding(start, size, w)
				for set := range 1 << (len(w) + 2) {
					var seqs []int
					for i := range len(w) + 2 {
						if set>>i&1 == 1 {
							seqs = append(seqs, after(start, i-1))
						}
					}
					for limit := -1; limit <= 5; limit++ {
						wantModel(t, s, call{name: "Missed", n: limit, seqs: seqs})
					}
					// The same numbers twice, in another order.
					slices.Reverse(seqs)
					wantModel(t, asking(s), call{name: "Missed", n: 2, seqs: append(seqs, seqs...)})
				}
			}
		}
	}
}

func TestMissedOfManyStates(t *testing.T) {
	for _, s := range append(small(3), large()...) {
		start := Start(s)
		every := []int{}
		odd := []int{}
		for d := range mostSize + 2 {
			every = append(every, after(start, d))
			odd = append(odd, start+2*d+1-numbers*(d%3))
		}
		for _, seqs := range [][]int{nil, {start}, {start + numbers}, {start - numbers, start}, {after(s.Next, -1)}, {s.Next}, every, odd} {
			for _, limit := range []int{math.MinInt, 1, 3, 5, math.MaxInt} {
				wantModel(t, s, call{name: "Missed", n: limit, seqs: seqs})
			}
		}
	}
}

func TestMissedOfAllNumbers(t *testing.T) {
	for _, s := range []State{holding(4090, 0, "o"), holding(4094, 8, "oo-do"), holding(0, 64, "o-o-dodo")} {
		for n := -numbers - 100; n < 2*numbers+100; n++ {
			wantModel(t, s, call{name: "Missed", n: 2, seqs: of(n)})
		}
		for _, n := range ints {
			wantModel(t, s, call{name: "Missed", n: 1, seqs: of(n)})
			wantModel(t, s, call{name: "Missed", n: n, seqs: of(s.List[0].Seq)})
		}
	}
}

func TestMissedAtRandom(t *testing.T) {
	r := rand.New(rand.NewSource(8))
	for range 15000 {
		s := randomState(r)
		var seqs []int
		for range r.Intn(80) {
			seqs = append(seqs, Start(s)+r.Intn(70)-3+numbers*(r.Intn(3)-1))
		}
		wantModel(t, s, call{name: "Missed", n: r.Intn(6), seqs: seqs})
	}
}

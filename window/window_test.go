package window

import (
	"math"
	"math/rand"
	"testing"

	"airtime/api"
)

// ints are ints at and beyond the limits of numbers, sizes and tries, and both ends of their range.
var ints = []int{math.MinInt, math.MinInt + 1, math.MinInt + 4096, math.MinInt32, -8192, -4097, -4096, -4095, -64, -2, -1, 0, 1, 2, 3, 10, 62, 63, 64, 65, 66,
	128, 2047, 2048, 2049, 4032, 4094, 4095, 4096, 4097, 8191, 8192, 1<<30 - 1, 1 << 30, 1<<30 + 1, 1<<32 + 1, math.MaxInt32 + 1, math.MaxInt - 4095, math.MaxInt - 1, math.MaxInt}

// P22.1

// wantNew checks New.
func wantNew(t *testing.T, next, want int) {
	t.Helper()
	s := New(next)
	if !same(s, State{Next: want}) {
		t.Errorf("New(%d) gives %+v, want only Next %d", next, s, want)
	}
	if e := Check(s); e != api.OK {
		t.Errorf("Check of New(%d) gives %d", next, e)
	}
}

func TestNewWrittenOut(t *testing.T) {
	for _, c := range [][2]int{{-1, 4095}, {0, 0}, {1, 1}, {7, 7}, {2048, 2048}, {4094, 4094}, {4095, 4095}, {4096, 0}, {4097, 1}, {8191, 4095}, {8192, 0},
		{-2, 4094}, {-4095, 1}, {-4096, 0}, {-4097, 4095}, {-8192, 0}, {1 << 30, 0}, {1<<30 - 1, 4095}, {math.MinInt32, 0},
		{math.MinInt, 0}, {math.MinInt + 1, 1}, {math.MinInt + 4095, 4095}, {math.MaxInt, 4095}, {math.MaxInt - 1, 4094}, {math.MaxInt - 4095, 0}} {
		wantNew(t, c[0], c[1])
	}
}

func TestNewOfConsecutiveNumbers(t *testing.T) {
	want := 0
	for next := -3 * numbers; next < 3*numbers; next++ {
		wantNew(t, next, want)
		if want++; want == numbers {
			want = 0
		}
	}
}

// P22.2

// checkOf is what the chapter says of Check.
func checkOf(s State) api.Errno {
	if !isNumber(s.Next) || s.Size < 0 || s.Size > mostSize {
		return 4
	}
	if len(s.List) == 0 {
		return 0
	}
	if !isNumber(s.List[0].Seq) {
		return 4
	}
	start := s.List[0].Seq
	n := steps(start, s.Next)
	for i, p := range s.List {
		if !isNumber(p.Seq) || p.Tries < 0 {
			return 4
		}
		if steps(start, p.Seq) >= n || i > 0 && steps(start, p.Seq) <= steps(start, s.List[i-1].Seq) {
			return 12
		}
		if len(p.Data) > mostOctets {
			return 2
		}
	}
	if n > 1 && n > s.Size {
		return 12
	}
	if s.List[0].Done {
		return 3
	}
	return 0
}

func TestCheckOfTheText(t *testing.T) {
	wantCheck(t, written(6, 4, sent(1, 3), sent(2, 5)), 0)
	wantCheck(t, written(8, 4, sent(1, 3), sent(2, 5)), 12)
	// Without an agreement the list has at most one packet.
	wantCheck(t, written(6, 0, sent(1, 5)), 0)
	wantCheck(t, written(6, 0, sent(1, 4), sent(2, 5)), 12)
}

func TestCheckOfAllNextsAndSizes(t *testing.T) {
	for _, next := range ints {
		for _, size := range ints {
			want := api.Errno(4)
			if 0 <= next && next <= 4095 && 0 <= size && size <= 64 {
				want = 0
			}
			wantCheck(t, State{Next: next, Size: size}, want)
			wantCheck(t, State{Next: next, Size: size, List: []api.Sent{}, Request: true}, want)
			// The errors of packets come after those of Next and Size.
			l := []api.Sent{{Seq: 3, Data: octets(2049), Done: true}, sent(1, 3), sent(2, -1)}
			s := written(next, size, l...)
			wantCheck(t, s, checkOf(s))
			if want == 4 {
				wantCheck(t, s, 4)
			}
		}
	}
	for n := -5000; n <= 9000; n++ {
		s := State{Next: n, Size: n % 70}
		wantCheck(t, s, checkOf(s))
	}
	for size := -70; size <= 140; size++ {
		s := State{Size: size}
		wantCheck(t, s, checkOf(s))
	}
}

func TestCheckWrittenOut(t *testing.T) {
	long, most := octets(2049), octets(2048)
	for _, c := range []struct {
		s    State
		want api.Errno
	}{
		{State{}, 0},
		{State{Next: 4095, Size: 64}, 0},
		{State{Next: 4095, Size: 64, Request: true}, 0},
		{State{Request: true}, 0},
		{State{Next: -1}, 4},
		{State{Next: 4096}, 4},
		{State{Size: -1}, 4},
		{State{Size: 65}, 4},
		// One packet.
		{written(4, 0, sent(1, 3)), 0},
		{written(4, 1, sent(1, 3)), 0},
		{written(5, 0, sent(1, 3)), 12},
		{written(5, 1, sent(1, 3)), 12},
		{written(5, 2, sent(1, 3)), 0},
		{written(6, 2, sent(1, 3)), 12},
		{written(3, 4, sent(1, 3)), 12},
		{written(2, 4, sent(1, 3)), 12},
		{written(2, 64, sent(1, 3)), 12},
		{written(0, 0, sent(1, 4095)), 0},
		{written(1, 0, sent(1, 4095)), 12},
		{written(0, 64, sent(1, 4032)), 0},
		{written(0, 64, sent(1, 4031)), 12},
		{written(63, 64, sent(1, 4095)), 0},
		{written(64, 64, sent(1, 4095)), 12},
		{written(4, 4, sent(1, -1)), 4},
		{written(0, 4, sent(1, -1)), 4},
		{written(1, 4, sent(1, 4096)), 4},
		{written(4, 4, sent(1, 3+4096)), 4},
		{written(4, 4, sent(1, 3-4096)), 4},
		{written(4, 4, tried(1, 3, -1)), 4},
		{written(4, 4, tried(1, 3, math.MinInt)), 4},
		{written(4, 4, tried(1, 3, 1<<30)), 0},
		{written(4, 4, tried(1, 3, 1<<30+1)), 0},
		{written(4, 4, tried(1, 3, math.MaxInt)), 0},
		{written(4, 4, api.Sent{Seq: 3, Data: most}), 0},
		{written(4, 4, api.Sent{Seq: 3, Data: long}), 2},
		{written(4, 4, gone(1, 3)), 3},
		{written(4, 0, gone(1, 3)), 3},
		// Identifiers are any numbers, also equal ones.
		{written(6, 4, sent(math.MinInt, 3), sent(math.MinInt, 4), sent(math.MaxInt, 5)), 0},
		// Several packets.
		{written(5, 2, sent(1, 3), sent(2, 4)), 0},
		{written(5, 0, sent(1, 3), sent(2, 4)), 12},
		{written(5, 1, sent(1, 3), sent(2, 4)), 12},
		{written(5, 4, sent(1, 3), sent(2, 3)), 12},
		{written(5, 4, sent(1, 3), sent(2, 2)), 12},
		{written(5, 4, sent(1, 3), sent(2, 5)), 12},
		{written(5, 4, sent(1, 3), sent(2, 6)), 12},
		{written(7, 4, sent(1, 3), sent(2, 5), sent(3, 4)), 12},
		{written(7, 4, sent(1, 3), sent(2, 4), sent(3, 4)), 12},
		{written(7, 4, sent(1, 3), sent(2, 4), sent(3, 3)), 12},
		{written(7, 4, sent(1, 3), gone(2, 4), gone(3, 6)), 0},
		{written(7, 3, sent(1, 3), gone(2, 4), gone(3, 6)), 12},
		{written(1, 4, sent(1, 4094), sent(2, 0)), 0},
		{written(2, 4, sent(1, 4094), sent(2, 4095), sent(3, 0), sent(4, 1)), 0},
		{written(2, 4, sent(1, 4094), sent(2, 0), sent(3, 4095)), 12},
		{written(2, 4, sent(1, 4094), sent(2, 4096)), 4},
		{written(2, 4, sent(1, 4094), sent(2, -1)), 4},
		{written(2, 4, sent(1, 4094), sent(2, 2)), 12},
		{written(2, 4, sent(1, 4094), sent(2, 4093)), 12},
		{written(2, 4, sent(1, 4094), tried(2, 4095, -1)), 4},
		{written(2, 4, sent(1, 4094), api.Sent{Seq: 4095, Data: long}), 2},
		{written(2, 4, gone(1, 4094), sent(2, 4095)), 3},
		{written(2, 4, gone(1, 4094), gone(2, 4095)), 3},
		// Of several errors of one packet, the first one counts.
		{written(3, 4, api.Sent{Seq: 3, Tries: -1, Data: long, Done: true}), 4},
		{written(3, 4, api.Sent{Seq: 3, Data: long, Done: true}), 12},
		{written(5, 0, api.Sent{Seq: 3, Data: long, Done: true}), 2},
		{written(5, 0, gone(1, 3)), 12},
		{written(4, 0, api.Sent{Seq: 3, Data: long, Done: true}), 2},
		{written(5, 4, sent(1, 3), api.Sent{Seq: 3, Tries: -1, Data: long}), 4},
		{written(5, 4, sent(1, 3), api.Sent{Seq: 3, Data: long}), 12},
		{written(5, 4, sent(1, 3), api.Sent{Seq: 5, Data: long}), 12},
		{written(5, 4, sent(1, 3), api.Sent{Seq: 4097, Data: long}), 4},
		// Each packet is checked whole before the next one, and all of them before the window and the first one.
		{written(6, 4, api.Sent{Seq: 3, Data: long}, sent(2, 3)), 2},
		{written(6, 4, api.Sent{Seq: 3, Data: long}, sent(2, -1)), 2},
		{written(6, 4, sent(1, 3), sent(2, 3), sent(3, -1)), 12},
		{written(6, 4, sent(1, 3), sent(2, 3), api.Sent{Seq: 5, Data: long}), 12},
		{written(6, 4, sent(1, 3), sent(2, -1), sent(3, 3)), 4},
		{written(6, 2, gone(1, 3), sent(2, 4)), 12},
		{written(6, 2, gone(1, 3), tried(2, 4, -1)), 4},
		{written(6, 2, gone(1, 3), api.Sent{Seq: 4, Data: long}), 2},
		{written(6, 4, gone(1, 3), api.Sent{Seq: 4, Data: long}), 2},
		{written(6, 4, gone(1, 3), sent(2, 6)), 12},
		{written(6, 65, gone(1, -1)), 4},
		{written(4096, 4, api.Sent{Seq: 3, Data: long}), 4},
	} {
		wantCheck(t, c.s, c.want)
		wantCheck(t, asking(c.s), c.want)
	}
}

func TestCheckOfOnePacket(t *testing.T) {
	for _, next := range []int{0, 1, 2048, 4095} {
		for _, size := range []int{0, 1, 2, 3, 63, 64} {
			for seq := -numbers - 100; seq < 2*numbers+100; seq++ {
				e := api.Errno(12)
				if !isNumber(seq) {
					e = 4
				} else if d := steps(seq, next); 1 <= d && d <= max(size, 1) {
					e = 0
				}
				wantCheck(t, written(next, size, sent(1, seq)), e)
			}
			for _, seq := range ints {
				s := written(next, size, sent(1, seq))
				wantCheck(t, s, checkOf(s))
			}
		}
	}
}

func TestCheckOfTries(t *testing.T) {
	for _, n := range ints {
		for i := range 3 {
			s := holding(4094, 4, "odo")
			s.List[i].Tries = n
			e := api.Errno(0)
			if n < 0 {
				e = 4
			}
			wantCheck(t, s, e)
		}
	}
}

func TestCheckOfTheLengthOfData(t *testing.T) {
	for _, n := range []int{0, 1, 1024, 2047, 2048, 2049, 2050, 4096, 10000} {
		for i := range 4 {
			s := holding(4094, 4, "oddo")
			s.List[i].Data = octets(n)
			e := api.Errno(0)
			if n > 2048 {
				e = 2
			}
			wantCheck(t, s, e)
		}
	}
}

// All lists of up to three packets from before the start to beyond Next, of which some have an error.
func TestCheckOfAllLists(t *testing.T) {
	packets := func(start, size int) []api.Sent {
		l := []api.Sent{sent(1, -1), sent(2, numbers), sent(3, start+numbers), tried(4, start, -1), tried(5, after(start, 1), -1),
			gone(6, start), gone(7, after(start, 1)), {Seq: start, Data: octets(2049)}, {Seq: after(start, 1), Data: octets(2049)}}
		for d := -1; d <= size+1; d++ {
			l = append(l, sent(10+d, after(start, d)))
		}
		return l
	}
	for _, start := range []int{0, 4094} {
		for size := range 4 {
			l := packets(start, size)
			for d := -1; d <= size+2; d++ {
				next := after(start, d)
				for _, a := range l {
					s := written(next, size, a)
					wantCheck(t, s, checkOf(s))
					for _, b := range l {
						s = written(next, size, a, b)
						wantCheck(t, s, checkOf(s))
						for _, c := range l {
							s = written(next, size, a, b, c)
							wantCheck(t, s, checkOf(s))
						}
					}
				}
			}
		}
	}
}

// Windows that are just full, and those in which one number more is used.
func TestCheckOfFullWindows(t *testing.T) {
	for _, start := range starts {
		for size := 0; size <= mostSize; size++ {
			most := max(size, 1)
			for _, letter := range []string{"o", "d", "-"} {
				w := "o"
				for len(w) < most {
					w += letter
				}
				wantCheck(t, holding(start, size, w), 0)
				wantCheck(t, asking(holding(start, size, w)), 0)
				wantCheck(t, holding(start, size, w+"o"), 12)
				wantCheck(t, holding(start, size, w+letter), 12)
				s := holding(start, size, w)
				s.List[0].Done = true
				wantCheck(t, s, 3)
			}
			s := holding(start, size, words(1)[1])
			s.List = append(s.List, s.List[0])
			wantCheck(t, s, 12)
		}
	}
}

func TestCheckOfManyStates(t *testing.T) {
	for _, s := range append(small(5), large()...) {
		wantCheck(t, s, api.OK)
		for i := range len(s.List) - 1 {
			s.List[i], s.List[i+1] = s.List[i+1], s.List[i]
			wantCheck(t, s, checkOf(s))
			wantCheck(t, s, 12)
			s.List[i], s.List[i+1] = s.List[i+1], s.List[i]
		}
	}
}

// Lists that ascend, with one or two disturbances.
func TestCheckAtRandom(t *testing.T) {
	r := rand.New(rand.NewSource(22))
	for range 40000 {
		s := randomState(r)
		wantCheck(t, s, api.OK)
		for range 1 + r.Intn(2) {
			if len(s.List) == 0 {
				break
			}
			i, j := r.Intn(len(s.List)), r.Intn(len(s.List))
			switch r.Intn(8) {
			case 0:
				s.List[i], s.List[j] = s.List[j], s.List[i]
			case 1:
				s.List[i] = s.List[j]
			case 2:
				s.List[i].Seq = r.Intn(numbers+10) - 5
			case 3:
				s.List[i].Seq = s.Next
			case 4:
				s.Next = after(s.Next, r.Intn(5)-2)
			case 5:
				s.List[i].Tries = r.Intn(5) - 2
			case 6:
				s.List[i].Done = !s.List[i].Done
			default:
				s.List[i].Data = octets(mostOctets + r.Intn(2))
			}
		}
		wantCheck(t, s, checkOf(s))
	}
}

// randomState returns a valid state, often one at the wrap from 4095 to 0.
func randomState(r *rand.Rand) State {
	start := r.Intn(numbers)
	if r.Intn(2) == 0 {
		start = after(0, r.Intn(2*mostSize)-mostSize-mostSize/2)
	}
	s := State{Size: r.Intn(mostSize + 1), Request: r.Intn(4) == 0}
	n := r.Intn(max(s.Size, 1) + 1)
	s.Next = after(start, n)
	share := r.Intn(11)
	for d := range n {
		if d > 0 && r.Intn(10) >= share {
			continue
		}
		s.List = append(s.List, api.Sent{ID: 100 + d, Seq: after(start, d), Tries: r.Intn(4), Done: d > 0 && r.Intn(3) == 0, Data: octets(r.Intn(3))})
	}
	return s
}

// P22.3

func TestStartOfTheText(t *testing.T) {
	if n := Start(New(7)); n != 7 {
		t.Errorf("Start of New(7) is %d, want 7", n)
	}
}

func TestStartWrittenOut(t *testing.T) {
	for _, c := range []struct {
		s    State
		want int
	}{
		{State{}, 0},
		{State{Next: 4095}, 4095},
		{State{Next: 9, Size: 64, List: []api.Sent{}, Request: true}, 9},
		{written(4, 0, sent(1, 3)), 3},
		{written(0, 0, sent(1, 4095)), 4095},
		{written(1, 1, sent(1, 0)), 0},
		{written(9, 8, sent(1, 3)), 3},
		{written(9, 8, sent(1, 3), gone(2, 4), sent(3, 8)), 3},
		{asking(written(2, 4, sent(1, 4094), sent(3, 1))), 4094},
	} {
		if got := Start(c.s); got != c.want {
			t.Errorf("Start of %+v is %d, want %d", c.s, got, c.want)
		}
	}
}

func TestStartOfManyStates(t *testing.T) {
	for _, s := range append(small(5), large()...) {
		wantStart(t, s)
	}
	for n := range numbers {
		if Start(State{Next: n, Size: 8}) != n || Start(holding(n, 8, "o-d")) != n {
			t.Fatalf("the start is not %d", n)
		}
	}
}

// P22.4

func TestRoomOfTheText(t *testing.T) {
	wantRoom(t, New(7), 1)
}

func TestRoomWrittenOut(t *testing.T) {
	for _, c := range []struct {
		s    State
		want int
	}{
		{State{}, 1},
		{State{Next: 4095, Size: 1}, 1},
		{State{Size: 2}, 2},
		{State{Size: 64}, 64},
		{State{Request: true}, 0},
		{State{Size: 64, Request: true}, 0},
		{written(4, 0, sent(1, 3)), 0},
		{written(0, 1, sent(1, 4095)), 0},
		{written(0, 2, sent(1, 4095)), 1},
		{written(0, 64, sent(1, 4095)), 63},
		{written(63, 64, sent(1, 4095)), 0},
		{written(62, 64, sent(1, 4095)), 1},
		// Numbers count up to Next, whether their packets are Done, removed or neither.
		{written(2, 8, sent(1, 4094)), 4},
		{written(2, 8, sent(1, 4094), sent(2, 1)), 4},
		{written(2, 8, sent(1, 4094), gone(2, 4095), gone(3, 0), gone(4, 1)), 4},
		{written(2, 4, sent(1, 4094), gone(2, 4095)), 0},
		{asking(written(2, 8, sent(1, 4094))), 0},
		{asking(written(2, 4, sent(1, 4094))), 0},
	} {
		wantRoom(t, c.s, c.want)
	}
}

func TestRoomOfManyStates(t *testing.T) {
	for _, s := range append(small(5), large()...) {
		wantRoom(t, s, modelOf(s).room())
		wantRoom(t, asking(s), 0)
	}
	for size := 1; size <= mostSize; size++ {
		w := ""
		for n := range size + 1 {
			wantRoom(t, holding(4090, size, w), size-n)
			w += "o"
		}
	}
}

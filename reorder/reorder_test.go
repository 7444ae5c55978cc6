package reorder

import (
	"math"
	"math/rand"
	"testing"

	"airtime/api"
)

// ints are ints at and beyond the limits of starts and sizes, and both ends of their range.
var ints = []int{math.MinInt, math.MinInt + 1, math.MinInt + 4096, math.MinInt32, -4097, -4096, -4095, -64, -2, -1, 0, 1, 2, 3, 10, 32, 62, 63, 64, 65, 66, 128,
	2047, 2048, 2049, 4032, 4094, 4095, 4096, 4097, 8191, 8192, 1<<32 + 1, math.MaxInt32 + 1, math.MaxInt - 4095, math.MaxInt - 1, math.MaxInt}

// possible is what the chapter says of a Start and a Size.
func possible(start, size int) bool {
	return 0 <= start && start <= 4095 && 1 <= size && size <= mostSize
}

// places returns the distance from Start of each number that may be held.
func places(r api.Reorder) map[int]int {
	l := map[int]int{}
	for d := 1; d < r.Size; d++ {
		l[after(r.Start, d)] = d
	}
	return l
}

// checkOf is what the chapter says of Check.
func checkOf(r api.Reorder) api.Errno {
	if !possible(r.Start, r.Size) {
		return 4
	}
	l := places(r)
	for i, h := range r.Held {
		d, ok := l[h.Seq]
		if !ok {
			return 4
		}
		if i > 0 && d <= l[r.Held[i-1].Seq] {
			return 12
		}
		if len(h.Data) > mostOctets {
			return 2
		}
	}
	return 0
}

func TestResults(t *testing.T) {
	if Old != old || Kept != kept || Moved != moved {
		t.Errorf("Old is %d, Kept %d and Moved %d, want %d, %d and %d", Old, Kept, Moved, old, kept, moved)
	}
}

// P20.1

// wantNew checks both results of New.
func wantNew(t *testing.T, start, size int, want api.Reorder, e api.Errno) {
	t.Helper()
	r, got := New(start, size)
	if got != e || !same(r, want) {
		t.Errorf("New(%d, %d) gives %+v and %d, want %+v and %d", start, size, r, got, want, e)
	}
	if len(r.Held) != 0 {
		t.Errorf("New(%d, %d) holds %+v", start, size, r.Held)
	}
}

func TestNewWrittenOut(t *testing.T) {
	wantNew(t, 0, 1, api.Reorder{Start: 0, Size: 1}, 0)
	wantNew(t, 0, 64, api.Reorder{Start: 0, Size: 64}, 0)
	wantNew(t, 4095, 1, api.Reorder{Start: 4095, Size: 1}, 0)
	wantNew(t, 4095, 64, api.Reorder{Start: 4095, Size: 64}, 0)
	wantNew(t, 7, 4, api.Reorder{Start: 7, Size: 4}, 0)
	wantNew(t, 64, 7, api.Reorder{Start: 64, Size: 7}, 0)
	for _, c := range [][2]int{{-1, 1}, {4096, 1}, {4096, 64}, {0, 0}, {0, 65}, {0, -1}, {4095, 0}, {4095, 65}, {-1, 0}, {4096, 65}, {-4096, 4}, {8192, 4},
		{math.MinInt, 4}, {math.MaxInt, 4}, {4, math.MinInt}, {4, math.MaxInt}, {math.MinInt, math.MinInt}, {math.MaxInt, math.MaxInt}} {
		wantNew(t, c[0], c[1], api.Reorder{}, 4)
	}
}

func TestNewOfAllStartsAndSizes(t *testing.T) {
	try := func(start, size int) {
		if possible(start, size) {
			wantNew(t, start, size, api.Reorder{Start: start, Size: size}, 0)
		} else {
			wantNew(t, start, size, api.Reorder{}, 4)
		}
	}
	for _, start := range ints {
		for _, size := range ints {
			try(start, size)
		}
		for size := -70; size <= 140; size++ {
			try(start, size)
		}
	}
	for start := -5000; start <= 9000; start++ {
		for _, size := range []int{-1, 0, 1, 2, 63, 64, 65} {
			try(start, size)
		}
	}
}

func TestNewIsValid(t *testing.T) {
	for _, start := range []int{0, 1, 2047, 2048, 4032, 4095} {
		for size := 1; size <= mostSize; size++ {
			r, _ := New(start, size)
			wantCheck(t, r, api.OK)
		}
	}
}

// P20.2

func TestCheckOfAllStartsAndSizes(t *testing.T) {
	for _, start := range ints {
		for _, size := range ints {
			r := api.Reorder{Start: start, Size: size}
			wantCheck(t, r, checkOf(r))
			// The errors of held packets come after those of Start and Size.
			r.Held = []api.Held{{Seq: after(start%numbers, 3), Data: octets(mostOctets + 1)}, {Seq: after(start%numbers, 2)}}
			wantCheck(t, r, checkOf(r))
		}
	}
}

func TestCheckWrittenOut(t *testing.T) {
	long := octets(2049)
	for _, c := range []struct {
		r    api.Reorder
		want api.Errno
	}{
		{api.Reorder{}, 4},
		{api.Reorder{Size: 1}, 0},
		{api.Reorder{Start: 4095, Size: 64}, 0},
		{api.Reorder{Start: 4095, Size: 65}, 4},
		{api.Reorder{Start: -1, Size: 1}, 4},
		{api.Reorder{Start: 4096, Size: 1}, 4},
		{api.Reorder{Size: 1, Held: []api.Held{}}, 0},
		{api.Reorder{Size: 1, Held: []api.Held{{Seq: 0}}}, 4},
		{api.Reorder{Size: 1, Held: []api.Held{{Seq: 1}}}, 4},
		{api.Reorder{Size: 2, Held: []api.Held{{Seq: 1}}}, 0},
		{api.Reorder{Size: 2, Held: []api.Held{{Seq: 2}}}, 4},
		{api.Reorder{Size: 4, Held: []api.Held{{Seq: 0}}}, 4},
		{api.Reorder{Size: 4, Held: []api.Held{{Seq: 3}}}, 0},
		{api.Reorder{Size: 4, Held: []api.Held{{Seq: 4}}}, 4},
		{api.Reorder{Size: 4, Held: []api.Held{{Seq: 4095}}}, 4},
		{api.Reorder{Size: 4, Held: []api.Held{{Seq: -1}}}, 4},
		{api.Reorder{Size: 4, Held: []api.Held{{Seq: 4097}}}, 4},
		{api.Reorder{Size: 4, Held: []api.Held{{Seq: -4095}}}, 4},
		{api.Reorder{Start: 4094, Size: 4, Held: []api.Held{{Seq: 4095}, {Seq: 0}, {Seq: 1}}}, 0},
		{api.Reorder{Start: 4094, Size: 4, Held: []api.Held{{Seq: 4095}, {Seq: 1}}}, 0},
		{api.Reorder{Start: 4094, Size: 4, Held: []api.Held{{Seq: 0}, {Seq: 4095}}}, 12},
		{api.Reorder{Start: 4094, Size: 4, Held: []api.Held{{Seq: 4096}}}, 4},
		{api.Reorder{Start: 4094, Size: 4, Held: []api.Held{{Seq: 2}}}, 4},
		{api.Reorder{Start: 4094, Size: 4, Held: []api.Held{{Seq: 4094}}}, 4},
		{api.Reorder{Start: 4095, Size: 64, Held: []api.Held{{Seq: 62}}}, 0},
		{api.Reorder{Start: 4095, Size: 64, Held: []api.Held{{Seq: 63}}}, 4},
		{api.Reorder{Size: 4, Held: []api.Held{{Seq: 1}, {Seq: 1}}}, 12},
		{api.Reorder{Size: 4, Held: []api.Held{{Seq: 2}, {Seq: 1}}}, 12},
		{api.Reorder{Size: 4, Held: []api.Held{{Seq: 1}, {Seq: 3}, {Seq: 2}}}, 12},
		{api.Reorder{Size: 4, Held: []api.Held{{Seq: 1, Data: octets(2048)}}}, 0},
		{api.Reorder{Size: 4, Held: []api.Held{{Seq: 1, Data: long}}}, 2},
		{api.Reorder{Size: 4, Held: []api.Held{{Seq: 1}, {Seq: 3, Data: long}}}, 2},
		// Of several errors of one packet, the first one counts.
		{api.Reorder{Size: 4, Held: []api.Held{{Seq: 0, Data: long}}}, 4},
		{api.Reorder{Size: 4, Held: []api.Held{{Seq: 4, Data: long}}}, 4},
		{api.Reorder{Size: 4, Held: []api.Held{{Seq: 2}, {Seq: 0}}}, 4},
		{api.Reorder{Size: 4, Held: []api.Held{{Seq: 2}, {Seq: 1, Data: long}}}, 12},
		{api.Reorder{Size: 4, Held: []api.Held{{Seq: 2}, {Seq: 2, Data: long}}}, 12},
		// Each packet is checked whole before the next one.
		{api.Reorder{Size: 4, Held: []api.Held{{Seq: 2, Data: long}, {Seq: 1}}}, 2},
		{api.Reorder{Size: 4, Held: []api.Held{{Seq: 2, Data: long}, {Seq: 4}}}, 2},
		{api.Reorder{Size: 4, Held: []api.Held{{Seq: 2}, {Seq: 1}, {Seq: 4}}}, 12},
		{api.Reorder{Size: 4, Held: []api.Held{{Seq: 2}, {Seq: 1}, {Seq: 3, Data: long}}}, 12},
		{api.Reorder{Size: 4, Held: []api.Held{{Seq: 2}, {Seq: 4}, {Seq: 3, Data: long}}}, 4},
		{api.Reorder{Size: 65, Held: []api.Held{{Seq: 2, Data: long}, {Seq: 1}}}, 4},
		{api.Reorder{Start: 4096, Size: 4, Held: []api.Held{{Seq: 2, Data: long}, {Seq: 1}}}, 4},
	} {
		wantCheck(t, c.r, c.want)
	}
}

func TestCheckOfOnePacket(t *testing.T) {
	for _, start := range []int{0, 2048, 4033, 4095} {
		for _, size := range []int{1, 2, 3, 63, 64} {
			r := api.Reorder{Start: start, Size: size, Held: make([]api.Held, 1)}
			l := places(r)
			try := func(seq int) {
				r.Held[0].Seq = seq
				e := api.Errno(4)
				if l[seq] > 0 {
					e = 0
				}
				wantCheck(t, r, e)
			}
			for seq := -numbers - 100; seq < 2*numbers+100; seq++ {
				try(seq)
			}
			for _, seq := range ints {
				try(seq)
			}
		}
	}
}

func TestCheckOfTheLengthOfData(t *testing.T) {
	for _, n := range []int{0, 1, 1024, 2047, 2048, 2049, 2050, 4096, 10000} {
		for size := 2; size <= 6; size++ {
			for i := range size - 1 {
				r := full(4093, size)
				r.Held[i].Data = octets(n)
				e := api.Errno(0)
				if n > 2048 {
					e = 2
				}
				wantCheck(t, r, e)
			}
		}
	}
}

// All lists of up to three packets at distances from -1 to beyond the window, of which some are too long.
func TestCheckOfAllLists(t *testing.T) {
	packets := func(start, size int) []api.Held {
		var l []api.Held
		for d := -1; d <= size+1; d++ {
			l = append(l, api.Held{Seq: after(start, d)}, api.Held{Seq: after(start, d), Data: octets(mostOctets + 1)})
		}
		return append(l, api.Held{Seq: -1}, api.Held{Seq: numbers}, api.Held{Seq: start + 1 + numbers})
	}
	for _, start := range []int{0, 5, 4094, 4095} {
		for size := 1; size <= 5; size++ {
			l := packets(start, size)
			for _, a := range l {
				for _, b := range l {
					r := api.Reorder{Start: start, Size: size, Held: []api.Held{a, b}}
					wantCheck(t, r, checkOf(r))
					for _, c := range l {
						r.Held = []api.Held{a, b, c}
						wantCheck(t, r, checkOf(r))
					}
				}
			}
		}
	}
}

func TestCheckOfFullBuffers(t *testing.T) {
	for _, start := range []int{0, 1, 2047, 4032, 4033, 4095} {
		for size := 1; size <= mostSize; size++ {
			r := full(start, size)
			wantCheck(t, r, api.OK)
			// There is no room for one more packet, whatever its number is.
			for _, d := range []int{-1, 0, size, size + 1} {
				s := full(start, size)
				s.Held = append(s.Held, api.Held{Seq: after(start, d)})
				wantCheck(t, s, checkOf(s))
				wantCheck(t, s, 4)
			}
			for i := range len(r.Held) - 1 {
				r.Held[i], r.Held[i+1] = r.Held[i+1], r.Held[i]
				wantCheck(t, r, 12)
				r.Held[i], r.Held[i+1] = r.Held[i+1], r.Held[i]
			}
		}
	}
}

// Lists that ascend, with one or two disturbances.
func TestCheckAtRandom(t *testing.T) {
	r := rand.New(rand.NewSource(20))
	for range 20000 {
		b := randomBuffer(r)
		wantCheck(t, b, api.OK)
		for range 1 + r.Intn(2) {
			if len(b.Held) == 0 {
				break
			}
			i, j := r.Intn(len(b.Held)), r.Intn(len(b.Held))
			switch r.Intn(5) {
			case 0:
				b.Held[i], b.Held[j] = b.Held[j], b.Held[i]
			case 1:
				b.Held[i] = b.Held[j]
			case 2:
				b.Held[i].Seq = r.Intn(numbers+10) - 5
			case 3:
				b.Held[i].Seq = after(b.Start, b.Size)
			default:
				b.Held[i].Data = octets(mostOctets + r.Intn(2))
			}
		}
		wantCheck(t, b, checkOf(b))
	}
}

// randomBuffer returns a valid buffer, often one at the wrap from 4095 to 0.
func randomBuffer(r *rand.Rand) api.Reorder {
	start := r.Intn(numbers)
	if r.Intn(2) == 0 {
		start = after(0, r.Intn(2*mostSize)-mostSize-mostSize/2)
	}
	b := api.Reorder{Start: start, Size: 1 + r.Intn(mostSize)}
	share := r.Intn(11)
	for d := 1; d < b.Size; d++ {
		if r.Intn(10) < share {
			b.Held = append(b.Held, api.Held{Seq: after(start, d), Data: letter(d)})
		}
	}
	return b
}

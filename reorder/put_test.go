package reorder

import (
	"math"
	"math/rand"
	"slices"
	"testing"

	"airtime/api"
)

// noNumbers are ints that are no sequence numbers; several of them are one modulo 4096.
var noNumbers = []int{math.MinInt, math.MinInt + 1, math.MinInt32, -8191, -4097, -4096, -4095, -4094, -2, -1,
	4096, 4097, 4098, 8191, 8192, 1 << 32, 1<<32 + 1, math.MaxInt - 4095, math.MaxInt - 1, math.MaxInt}

// starts are starts of windows: at the wrap from 4095 to 0, around 2048, and others.
var starts = []int{0, 1, 100, 2046, 2047, 2048, 2049, 4033, 4092, 4094, 4095}

// small are buffers of up to 5 numbers with all sets of held packets.
func small() []api.Reorder {
	var l []api.Reorder
	for _, start := range starts {
		for size := 1; size <= 5; size++ {
			l = append(l, subsets(start, size)...)
		}
	}
	return l
}

// large are buffers of 62 to 64 numbers: without packets, with a few, with every second one, and with all.
func large() []api.Reorder {
	var l []api.Reorder
	for _, start := range starts {
		for size := 62; size <= mostSize; size++ {
			var odd, even []int
			for d := 1; d < size; d++ {
				if d%2 == 1 {
					odd = append(odd, d)
				} else {
					even = append(even, d)
				}
			}
			l = append(l, holding(start, size), holding(start, size, 1), holding(start, size, size-1), holding(start, size, 1, 2, 30, size-1),
				holding(start, size, odd...), holding(start, size, even...), full(start, size))
		}
	}
	return l
}

// distances are those at which something may change: in and around the window, around twice its size, at 2048, and before Start.
func distances(size int) []int {
	l := []int{100, 1000, 2000, 3000, 4000}
	for d := -4; d <= size+4; d++ {
		l = append(l, after(0, d))
	}
	for d := -3; d <= 3; d++ {
		l = append(l, 2*size+d+3, nearest+d, nearest+size+d, nearest-size+d, numbers-size+d-1)
	}
	slices.Sort(l)
	return slices.Compact(l)
}

// buffer is a short way to write a buffer.
func buffer(start, size int, held ...api.Held) api.Reorder {
	return api.Reorder{Start: start, Size: size, Held: held}
}

// P20.3

func TestPutOfTheText(t *testing.T) {
	r, _ := New(0, 4)
	r = wantPut(t, r, 1, "b", outcome{buffer(0, 4, api.Held{Seq: 1, Data: "b"}), kept, nil})
	r = wantPut(t, r, 0, "a", outcome{buffer(2, 4), kept, []string{"a", "b"}})
	wantPut(t, r, 7, "h", outcome{buffer(4, 4, api.Held{Seq: 7, Data: "h"}), moved, nil})
}

func TestPutWrittenOut(t *testing.T) {
	a, b, c, d := api.Held{Seq: 4094, Data: "a"}, api.Held{Seq: 4095, Data: "b"}, api.Held{Seq: 0, Data: "c"}, api.Held{Seq: 1, Data: "d"}
	for _, x := range []struct {
		r    api.Reorder
		seq  int
		data string
		want outcome
	}{
		// Start.
		{buffer(4094, 4), 4094, "a", outcome{buffer(4095, 4), kept, []string{"a"}}},
		{buffer(4094, 4, b), 4094, "a", outcome{buffer(0, 4), kept, []string{"a", "b"}}},
		{buffer(4094, 4, b, c, d), 4094, "a", outcome{buffer(2, 4), kept, []string{"a", "b", "c", "d"}}},
		{buffer(4094, 4, b, d), 4094, "a", outcome{buffer(0, 4, d), kept, []string{"a", "b"}}},
		{buffer(4094, 4, c, d), 4094, "a", outcome{buffer(4095, 4, c, d), kept, []string{"a"}}},
		{buffer(4093, 4, a, c), 4093, "z", outcome{buffer(4095, 4, c), kept, []string{"z", "a"}}},
		// The window.
		{buffer(4094, 4), 0, "c", outcome{buffer(4094, 4, c), kept, nil}},
		{buffer(4094, 4, d), 0, "c", outcome{buffer(4094, 4, c, d), kept, nil}},
		{buffer(4094, 4, b), 0, "c", outcome{buffer(4094, 4, b, c), kept, nil}},
		{buffer(4094, 4, b, d), 0, "c", outcome{buffer(4094, 4, b, c, d), kept, nil}},
		{buffer(4094, 4, b, c), 1, "d", outcome{buffer(4094, 4, b, c, d), kept, nil}},
		// Behind the window: the buffer advances by 1, 2, 3, 4 and more numbers.
		{buffer(4094, 4, b, d), 2, "e", outcome{buffer(0, 4, d, api.Held{Seq: 2, Data: "e"}), moved, []string{"b"}}},
		{buffer(4094, 4, c), 2, "e", outcome{buffer(4095, 4, c, api.Held{Seq: 2, Data: "e"}), moved, nil}},
		{buffer(4094, 4, b, c, d), 2, "e", outcome{buffer(3, 4), moved, []string{"b", "c", "d", "e"}}},
		{buffer(4094, 4, b, d), 3, "f", outcome{buffer(0, 4, d, api.Held{Seq: 3, Data: "f"}), moved, []string{"b"}}},
		{buffer(4094, 4, b, d), 4, "g", outcome{buffer(2, 4, api.Held{Seq: 4, Data: "g"}), moved, []string{"b", "d"}}},
		{buffer(4094, 4, b, d), 5, "h", outcome{buffer(2, 4, api.Held{Seq: 5, Data: "h"}), moved, []string{"b", "d"}}},
		{buffer(4094, 4, b, d), 6, "i", outcome{buffer(3, 4, api.Held{Seq: 6, Data: "i"}), moved, []string{"b", "d"}}},
		{buffer(4094, 4, b, d), 2045, "j", outcome{buffer(2042, 4, api.Held{Seq: 2045, Data: "j"}), moved, []string{"b", "d"}}},
		{buffer(4094, 4), 2045, "j", outcome{buffer(2042, 4, api.Held{Seq: 2045, Data: "j"}), moved, nil}},
		// Before Start.
		{buffer(4094, 4, b, d), 2046, "j", outcome{buffer(4094, 4, b, d), old, nil}},
		{buffer(4094, 4, b, d), 2047, "j", outcome{buffer(4094, 4, b, d), old, nil}},
		{buffer(4094, 4, b, d), 4093, "j", outcome{buffer(4094, 4, b, d), old, nil}},
		// Held.
		{buffer(4094, 4, b, d), 4095, "b", outcome{buffer(4094, 4, b, d), old, nil}},
		{buffer(4094, 4, b, d), 1, "other", outcome{buffer(4094, 4, b, d), old, nil}},
		// A window of one number holds nothing.
		{buffer(4095, 1), 4095, "b", outcome{buffer(0, 1), kept, []string{"b"}}},
		{buffer(4095, 1), 0, "c", outcome{buffer(1, 1), moved, []string{"c"}}},
		{buffer(4095, 1), 2046, "x", outcome{buffer(2047, 1), moved, []string{"x"}}},
		{buffer(4095, 1), 2047, "x", outcome{buffer(4095, 1), old, nil}},
		{buffer(4095, 1), 4094, "a", outcome{buffer(4095, 1), old, nil}},
		// A window of two numbers.
		{buffer(4095, 2), 0, "c", outcome{buffer(4095, 2, c), kept, nil}},
		{buffer(4095, 2, c), 1, "d", outcome{buffer(2, 2), moved, []string{"c", "d"}}},
		{buffer(4095, 2, c), 2, "e", outcome{buffer(1, 2, api.Held{Seq: 2, Data: "e"}), moved, []string{"c"}}},
		{buffer(4095, 2), 1, "d", outcome{buffer(0, 2, d), moved, nil}},
	} {
		wantPut(t, x.r, x.seq, x.data, x.want)
		wantModel(t, x.r, call{name: "Put", seq: x.seq, data: x.data})
	}
}

// No numbers, of which some are Start, free, held or behind the window modulo 4096.
func TestPutOfNoNumbersWrittenOut(t *testing.T) {
	r := buffer(4094, 4, api.Held{Seq: 4095, Data: "b"}, api.Held{Seq: 1, Data: "d"})
	for _, seq := range []int{-2, -1, 4096, 4097, 4098, 8190, -4096, math.MinInt, math.MaxInt} {
		wantPut(t, r, seq, "new", outcome{r, old, nil})
	}
	wantPut(t, buffer(0, 4), -4096, "new", outcome{buffer(0, 4), old, nil})
	wantPut(t, buffer(0, 4), 4096, "new", outcome{buffer(0, 4), old, nil})
}

func TestPutAtAllDistances(t *testing.T) {
	for _, r := range append(small(), large()...) {
		for _, d := range distances(r.Size) {
			wantModel(t, r, call{name: "Put", seq: after(r.Start, d), data: "new"})
		}
	}
}

func TestPutOfAllNumbers(t *testing.T) {
	for _, r := range []api.Reorder{holding(0, 1), holding(4095, 3, 2), full(2048, 4), holding(4090, 64, 1, 5, 6, 7, 63), full(4060, 64)} {
		for seq := -numbers - 10; seq <= 2*numbers+10; seq++ {
			wantModel(t, r, call{name: "Put", seq: seq, data: "new"})
		}
	}
}

func TestPutOfNoNumbers(t *testing.T) {
	for _, r := range append(small(), large()...) {
		for _, seq := range noNumbers {
			wantPut(t, r, seq, "new", outcome{r, old, nil})
		}
		for d := range r.Size + 2 {
			wantPut(t, r, r.Start+d+numbers, "new", outcome{r, old, nil})
			wantPut(t, r, r.Start+d-2*numbers, "new", outcome{r, old, nil})
		}
	}
}

func TestPutOfHeldNumbers(t *testing.T) {
	for _, r := range append(small(), large()...) {
		for _, h := range r.Held {
			for _, data := range []string{h.Data, "other", "", octets(mostOctets), octets(mostOctets + 1)} {
				wantPut(t, r, h.Seq, data, outcome{r, old, nil})
			}
		}
	}
}

func TestPutOfNumbersBeforeStart(t *testing.T) {
	for _, r := range append(small(), large()...) {
		for _, d := range []int{2048, 2049, 2050, 3000, 4032, 4033, 4090, 4094, 4095} {
			wantPut(t, r, (r.Start+d)%numbers, "new", outcome{r, old, nil})
		}
	}
}

// The greatest distance of a number that does not precede Start.
func TestPutAtTheDistance2047(t *testing.T) {
	for _, r := range append(small(), large()...) {
		seq := (r.Start + 2047) % numbers
		var all []string
		for _, h := range r.Held {
			all = append(all, h.Data)
		}
		n := buffer(after(seq, 1-r.Size), r.Size, api.Held{Seq: seq, Data: "new"})
		if r.Size == 1 {
			n, all = buffer(after(seq, 1), 1), append(all, "new")
		}
		wantPut(t, r, seq, "new", outcome{n, moved, all})
	}
}

func TestPutOfTheLengthOfData(t *testing.T) {
	buffers := []api.Reorder{holding(0, 1), holding(4095, 4), holding(4094, 4, 1, 3), full(4095, 4), full(4040, 64), holding(1000, 64, 2)}
	for _, r := range buffers {
		for _, n := range []int{0, 1, 1023, 1024, 1025, 2046, 2047, 2048, 2049, 2050, 4096, 70000} {
			for _, d := range []int{0, 1, 2, 3, 4, 5, 63, 64, 65, 2047, 2048, 4095} {
				seq := after(r.Start, d)
				o := wantModel(t, r, call{name: "Put", seq: seq, data: octets(n)})
				if n > 2048 && (o.result != old || !same(o.r, r)) {
					t.Fatalf("the model keeps %d octets", n)
				}
				if d == 0 && n <= 2048 && (o.result != kept || o.l[0] != octets(n)) {
					t.Fatalf("the model keeps the start with %d octets back", n)
				}
			}
		}
	}
}

// Octets are data whatever their values are, and equal data are different packets.
func TestPutOfAnyOctets(t *testing.T) {
	var all []byte
	for i := range 256 {
		all = append(all, byte(i))
	}
	for _, data := range []string{"", "\x00", "\xff\xfe", string(all)} {
		r := buffer(9, 4, api.Held{Seq: 10, Data: data})
		wantPut(t, r, 9, data, outcome{buffer(11, 4), kept, []string{data, data}})
		wantPut(t, r, 11, data, outcome{buffer(9, 4, api.Held{Seq: 10, Data: data}, api.Held{Seq: 11, Data: data}), kept, nil})
		wantPut(t, r, 14, data, outcome{buffer(11, 4, api.Held{Seq: 14, Data: data}), moved, []string{data}})
	}
}

// A buffer that holds all but its start releases all of them at once, and drains as far when it is pushed from behind.
func TestPutIntoFullBuffers(t *testing.T) {
	for _, start := range starts {
		for size := 1; size <= mostSize; size++ {
			r := full(start, size)
			l := []string{"new"}
			for d := 1; d < size; d++ {
				l = append(l, letter(d))
			}
			wantPut(t, r, start, "new", outcome{buffer(after(start, size), size), kept, l})
			l = append(l[1:], "new")
			wantPut(t, r, after(start, size), "new", outcome{buffer(after(start, size+1), size), moved, l})
			for d := 1; d < size; d++ {
				wantPut(t, r, after(start, d), "new", outcome{r, old, nil})
			}
		}
	}
}

func TestPutAtRandom(t *testing.T) {
	r := rand.New(rand.NewSource(3))
	for range 50000 {
		b := randomBuffer(r)
		wantModel(t, b, call{name: "Put", seq: randomNumber(r, b), data: "new"})
	}
}

// randomNumber returns a number, often one in or near the window.
func randomNumber(r *rand.Rand, b api.Reorder) int {
	switch r.Intn(4) {
	case 0:
		return r.Intn(numbers)
	case 1:
		return after(b.Start, b.Size+r.Intn(9)-4)
	case 2:
		return after(b.Start, r.Intn(2*b.Size+4)-2)
	}
	return after(b.Start, r.Intn(b.Size))
}

// P20.4

func TestMoveWrittenOut(t *testing.T) {
	b, c, d := api.Held{Seq: 4095, Data: "b"}, api.Held{Seq: 0, Data: "c"}, api.Held{Seq: 1, Data: "d"}
	r := buffer(4094, 4, b, d)
	wantMove(t, r, 4094, r)
	wantMove(t, r, 4095, buffer(0, 4, d), "b")
	wantMove(t, r, 0, buffer(0, 4, d), "b")
	wantMove(t, r, 1, buffer(2, 4), "b", "d")
	wantMove(t, r, 2, buffer(2, 4), "b", "d")
	wantMove(t, r, 3, buffer(3, 4), "b", "d")
	wantMove(t, r, 2045, buffer(2045, 4), "b", "d")
	wantMove(t, r, 2046, r)
	wantMove(t, r, 2047, r)
	wantMove(t, r, 4093, r)
	wantMove(t, r, -1, r)
	wantMove(t, r, 4096, r)
	wantMove(t, r, 4097, r)
	wantMove(t, r, 8191, r)
	r = buffer(4094, 4, b, c, d)
	wantMove(t, r, 4095, buffer(2, 4), "b", "c", "d")
	wantMove(t, r, 0, buffer(2, 4), "b", "c", "d")
	wantMove(t, buffer(4094, 4), 4095, buffer(4095, 4))
	wantMove(t, buffer(4094, 4), 1, buffer(1, 4))
	wantMove(t, buffer(4094, 4), 2, buffer(2, 4))
	wantMove(t, buffer(4094, 4, d), 4095, buffer(4095, 4, d))
	wantMove(t, buffer(0, 1), 2047, buffer(2047, 1))
	wantMove(t, buffer(0, 1), 2048, buffer(0, 1))
	wantMove(t, buffer(0, 1), 4095, buffer(0, 1))
	wantMove(t, buffer(2048, 1), 0, buffer(2048, 1))
	wantMove(t, buffer(2049, 1), 0, buffer(0, 1))
}

func TestMoveToAllDistances(t *testing.T) {
	for _, r := range append(small(), large()...) {
		for _, d := range distances(r.Size) {
			wantModel(t, r, call{name: "Move", seq: after(r.Start, d)})
		}
	}
}

func TestMoveToAllNumbers(t *testing.T) {
	for _, r := range []api.Reorder{holding(0, 1), holding(4095, 3, 2), full(2048, 4), holding(4090, 64, 1, 5, 6, 7, 63), full(4060, 64)} {
		for start := -numbers - 10; start <= 2*numbers+10; start++ {
			wantModel(t, r, call{name: "Move", seq: start})
		}
	}
}

func TestMoveToWhereNothingChanges(t *testing.T) {
	for _, r := range append(small(), large()...) {
		wantMove(t, r, r.Start, r)
		for _, start := range noNumbers {
			wantMove(t, r, start, r)
		}
		for d := range r.Size + 2 {
			wantMove(t, r, r.Start+d+numbers, r)
			wantMove(t, r, r.Start+d-2*numbers, r)
		}
		for _, d := range []int{2048, 2049, 2050, 3000, 4032, 4033, 4090, 4094, 4095} {
			wantMove(t, r, (r.Start+d)%numbers, r)
		}
	}
}

func TestMoveBehindTheWindow(t *testing.T) {
	for _, r := range append(small(), large()...) {
		var all []string
		for _, h := range r.Held {
			all = append(all, h.Data)
		}
		for _, d := range []int{r.Size, r.Size + 1, r.Size + 2, 2 * r.Size, 1000, 2046, 2047} {
			n := after(r.Start, d)
			wantMove(t, r, n, buffer(n, r.Size), all...)
		}
	}
}

func TestMoveAtRandom(t *testing.T) {
	r := rand.New(rand.NewSource(4))
	for range 50000 {
		b := randomBuffer(r)
		wantModel(t, b, call{name: "Move", seq: randomNumber(r, b)})
	}
}

// P20.5

func TestFlushWrittenOut(t *testing.T) {
	a, b, c, d := api.Held{Seq: 4094, Data: "a"}, api.Held{Seq: 4095, Data: "b"}, api.Held{Seq: 0, Data: "c"}, api.Held{Seq: 1, Data: "d"}
	wantFlush(t, buffer(0, 1), buffer(0, 1))
	wantFlush(t, buffer(4095, 64), buffer(4095, 64))
	wantFlush(t, buffer(7, 4), buffer(7, 4))
	wantFlush(t, buffer(4093, 4, a), buffer(4095, 4), "a")
	wantFlush(t, buffer(4093, 4, b), buffer(0, 4), "b")
	wantFlush(t, buffer(4093, 4, c), buffer(1, 4), "c")
	wantFlush(t, buffer(4093, 4, a, b, c), buffer(1, 4), "a", "b", "c")
	wantFlush(t, buffer(4093, 5, a, d), buffer(2, 5), "a", "d")
	wantFlush(t, buffer(4095, 64, d, api.Held{Seq: 62, Data: "z"}), buffer(63, 64), "d", "z")
}

func TestFlushOfAllBuffers(t *testing.T) {
	for _, r := range append(small(), large()...) {
		var all []string
		n := buffer(r.Start, r.Size)
		for _, h := range r.Held {
			all = append(all, h.Data)
			n.Start = (h.Seq + 1) % numbers
		}
		wantFlush(t, r, n, all...)
		wantModel(t, r, call{name: "Flush"})
		// Nothing is left for a second time.
		wantFlush(t, n, n)
	}
}

func TestFlushOfFullBuffers(t *testing.T) {
	for start := range numbers {
		r := full(start, mostSize)
		var all []string
		for _, h := range r.Held {
			all = append(all, h.Data)
		}
		wantFlush(t, r, buffer((start+64)%numbers, mostSize), all...)
	}
}

func TestFlushAtRandom(t *testing.T) {
	r := rand.New(rand.NewSource(5))
	for range 20000 {
		wantModel(t, randomBuffer(r), call{name: "Flush"})
	}
}

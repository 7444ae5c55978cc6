package reorder

import (
	"math"
	"math/rand"
	"slices"
	"strconv"
	"testing"

	"airtime/api"
)

// fewCalls are calls with numbers in, behind and before the window, for all short sequences of calls.
func fewCalls(start int) []call {
	l := []call{{name: "Flush"}, {name: "Put", seq: numbers}, {name: "Put", seq: after(start, 1), data: octets(mostOctets + 1)}}
	for _, d := range []int{-1, 0, 1, 2, 3, 4} {
		l = append(l, call{name: "Put", seq: after(start, d), data: letter(d + 1)})
	}
	for _, d := range []int{-1, 1, 3, 5} {
		l = append(l, call{name: "Move", seq: after(start, d)})
	}
	return l
}

// P20.6 and P20.7: every sequence of four calls, of each of which the results are what the chapter says.

func TestAllShortSequences(t *testing.T) {
	for _, start := range []int{0, 4094} {
		for size := 1; size <= 4; size++ {
			l := fewCalls(start)
			var extend func(r api.Reorder, left int)
			extend = func(r api.Reorder, left int) {
				if left == 0 {
					return
				}
				for _, c := range l {
					extend(wantModel(t, r, c).r, left-1)
				}
			}
			extend(api.Reorder{Start: start, Size: size}, 4)
		}
	}
}

// The buffers that a call returned are given to several further calls; what they held stays.
func TestBuffersStayAsTheyWere(t *testing.T) {
	l := fewCalls(4094)
	var extend func(r api.Reorder, left int)
	extend = func(r api.Reorder, left int) {
		was := r
		was.Held = slices.Clone(r.Held)
		var results, copies []outcome
		for _, c := range l {
			o := c.of(r)
			results = append(results, o)
			o.r.Held, o.l = slices.Clone(o.r.Held), slices.Clone(o.l)
			copies = append(copies, o)
		}
		for i, o := range results {
			if left > 1 {
				extend(o.r, left-1)
			}
			if !same(r, was) || !o.equal(copies[i]) {
				t.Fatalf("%+v of %+v gave %+v, and later calls changed this to %+v", l[i], was, copies[i], o)
			}
		}
		for i, o := range results {
			if !o.equal(copies[i]) {
				t.Fatalf("%+v of %+v gave %+v, and calls with other buffers changed this to %+v", l[i], was, copies[i], o)
			}
		}
	}
	for size := 1; size <= 4; size++ {
		extend(api.Reorder{Start: 4094, Size: size}, 4)
	}
}

// run is a sequence of calls. Its numbers are not counted modulo 4096 but on and on, and the data of a packet is its number.
type run struct {
	r       api.Reorder
	start   int
	waiting map[int]bool
	last    int
	out     int
}

// newRun begins a run at a number.
func newRun(t *testing.T, start, size int) *run {
	t.Helper()
	r, e := New(start%numbers, size)
	if e != api.OK {
		t.Fatalf("New(%d, %d) gives %d", start%numbers, size, e)
	}
	return &run{r: r, start: start, waiting: map[int]bool{}, last: start - 1}
}

// took checks what a call released, and that the new buffer is valid and holds what was put and not released.
func (x *run) took(t *testing.T, r api.Reorder, l []string) {
	t.Helper()
	x.start += steps(x.r.Start, r.Start)
	x.r = r
	wantCheck(t, r, api.OK)
	for _, s := range l {
		n, _ := strconv.Atoi(s)
		if n <= x.last || n >= x.start || !x.waiting[n] {
			t.Fatalf("%d is released behind %d, with the start %d; it waits: %v", n, x.last, x.start, x.waiting[n])
		}
		delete(x.waiting, n)
		x.last = n
		x.out++
	}
	for _, h := range r.Held {
		n := x.start + steps(r.Start, h.Seq)
		if h.Data != strconv.Itoa(n) || !x.waiting[n] {
			t.Fatalf("%q is held with the number %d, want %d; it waits: %v", h.Data, h.Seq, n, x.waiting[n])
		}
	}
	if len(r.Held) != len(x.waiting) {
		t.Fatalf("%d packets are held, want %d", len(r.Held), len(x.waiting))
	}
}

// put puts the packet with a number that does not precede the start.
func (x *run) put(t *testing.T, n int) {
	t.Helper()
	want := kept
	switch {
	case x.waiting[n]:
		want = old
	case n >= x.start+x.r.Size:
		want = moved
	}
	r, result, l := Put(x.r, n%numbers, strconv.Itoa(n))
	if result != want {
		t.Fatalf("Put of %d into a buffer of %d from %d on gives %d, want %d", n, x.r.Size, x.start, result, want)
	}
	x.waiting[n] = true
	x.took(t, r, l)
}

// refuse puts what is refused.
func (x *run) refuse(t *testing.T, seq int, data string) {
	t.Helper()
	r, result, l := Put(x.r, seq, data)
	if result != old || len(l) != 0 || !same(r, x.r) {
		t.Fatalf("Put of %d into a buffer of %d from %d on gives %d, releases %q, and leaves %+v", seq, x.r.Size, x.r.Start, result, l, r)
	}
	x.took(t, r, l)
}

// move moves the start to a number that it does not precede.
func (x *run) move(t *testing.T, n int) {
	t.Helper()
	r, l := Move(x.r, n%numbers)
	x.took(t, r, l)
	if x.start < n {
		t.Fatalf("Move to %d leaves the start %d", n, x.start)
	}
}

// flush flushes the buffer, behind which nothing is held.
func (x *run) flush(t *testing.T) {
	t.Helper()
	r, l := Flush(x.r)
	x.took(t, r, l)
	if len(r.Held) != 0 {
		t.Fatalf("Flush leaves %+v", r)
	}
}

// P20.7: packets that arrive in order, in reverse order and in pieces of reverse order, through the whole range of numbers and on.

func TestPacketsInOrder(t *testing.T) {
	for _, size := range []int{1, 2, 3, 63, 64} {
		x := newRun(t, 4000, size)
		for n := 4000; n < 14000; n++ {
			x.put(t, n)
			if x.start != n+1 || x.last != n {
				t.Fatalf("the start is %d behind %d", x.start, n)
			}
		}
	}
}

func TestPacketsInReverseOrder(t *testing.T) {
	for size := 1; size <= mostSize; size++ {
		x := newRun(t, 4060, size)
		for first := 4060; first < 6000; first += size {
			for d := size - 1; d >= 0; d-- {
				if x.last != first-1 {
					t.Fatalf("%d was released before the packet %d arrived", x.last, first)
				}
				x.put(t, first+d)
			}
			if x.last != first+size-1 || len(x.r.Held) != 0 {
				t.Fatalf("%d was released last of the packets from %d on", x.last, first)
			}
		}
	}
}

// One packet in several is lost, so that those behind it wait until the window moves on.
func TestPacketsWithGaps(t *testing.T) {
	for _, size := range []int{1, 2, 3, 8, 63, 64} {
		for period := 2; period <= 70; period += 4 {
			x := newRun(t, 3501, size)
			sent := 0
			for n := 3501; n < 5000; n++ {
				if n%period != 0 {
					x.put(t, n)
					sent++
				}
			}
			x.flush(t)
			if x.out != sent {
				t.Fatalf("%d packets were released, want %d", x.out, sent)
			}
		}
	}
}

// Calls of all sorts, none of which has a number that precedes the start but for those that are refused.
func TestRunsAtRandom(t *testing.T) {
	r := rand.New(rand.NewSource(207))
	for range 300 {
		x := newRun(t, numbers+r.Intn(numbers), 1+r.Intn(mostSize))
		// Far is how far behind the window the numbers of this run may be.
		far := []int{1, 2, 10, 100, nearest}[r.Intn(5)]
		for range 400 {
			reach := min(x.r.Size+far, nearest)
			switch k := r.Intn(100); {
			case k < 70:
				x.put(t, x.start+r.Intn(x.r.Size))
			case k < 80:
				x.put(t, x.start+r.Intn(reach))
			case k < 84:
				x.move(t, x.start+r.Intn(reach))
			case k < 85:
				x.flush(t)
			case k < 95:
				n := x.start - 1 - r.Intn(nearest)
				x.refuse(t, n%numbers, strconv.Itoa(n))
			case k < 98:
				x.refuse(t, noNumbers[r.Intn(len(noNumbers))], "no number")
			default:
				x.refuse(t, after(x.r.Start, r.Intn(reach)), octets(mostOctets+1))
			}
		}
		x.flush(t)
		if len(x.waiting) != 0 {
			t.Fatalf("%d packets were neither released nor are held", len(x.waiting))
		}
	}
}

// A packet that was released is not released again, whatever its sender repeats in the window behind it.
func TestRepeatedPackets(t *testing.T) {
	r := rand.New(rand.NewSource(7))
	for _, size := range []int{1, 4, 64} {
		x := newRun(t, 3000, size)
		for n := 3000; n < 12000; n++ {
			x.put(t, n)
			for range 3 {
				again := n - r.Intn(min(n-3000+1, nearest))
				x.refuse(t, again%numbers, strconv.Itoa(again))
			}
		}
		if x.out != 9000 {
			t.Fatalf("%d packets were released, want 9000", x.out)
		}
	}
}

// R1: buffers that are not valid give results of which nothing is promised, and the calls change nothing.

func TestBuffersThatAreNotValid(t *testing.T) {
	r := rand.New(rand.NewSource(1))
	number := func() int {
		switch r.Intn(3) {
		case 0:
			return ints[r.Intn(len(ints))]
		case 1:
			return int(r.Uint64())
		}
		return r.Intn(70)
	}
	for range 20000 {
		b := api.Reorder{Start: number(), Size: number()}
		for range r.Intn(20) {
			b.Held = append(b.Held, api.Held{Seq: number(), Data: octets(r.Intn(3))})
		}
		wantCheck(t, b, checkOf(b))
		given, memory := roomy(b)
		before := slices.Clone(memory)
		for _, c := range []call{{"Put", number(), "new"}, {"Put", number(), octets(mostOctets + 1)}, {"Move", number(), ""}, {name: "Flush"}} {
			c.of(given)
		}
		if !slices.Equal(memory, before) {
			t.Fatalf("calls with %+v change it", brief(b))
		}
	}
}

// Many packets with one number, or with all of them, do not make a call endless.
func TestBuffersThatHoldTooMuch(t *testing.T) {
	for _, start := range []int{0, 4095, -1, math.MinInt, math.MaxInt} {
		for _, size := range []int{0, 1, 64, math.MinInt, math.MaxInt} {
			one, all := api.Reorder{Start: start, Size: size}, api.Reorder{Start: start, Size: size}
			for n := range 3 * numbers {
				one.Held = append(one.Held, api.Held{Seq: start})
				all.Held = append(all.Held, api.Held{Seq: after(n, 0)})
			}
			for _, b := range []api.Reorder{one, all} {
				for _, seq := range []int{start, 0, 1, 2047, 4095, math.MinInt, math.MaxInt} {
					Put(b, seq, "new")
					Move(b, seq)
				}
				Flush(b)
				Check(b)
			}
		}
	}
}

package window

import (
	"math"
	"math/rand"
	"testing"

	"airtime/api"
)

// wantPut checks Put with all of its results.
func wantPut(t *testing.T, s State, id int, data string, o outcome) State {
	t.Helper()
	return want(t, s, call{name: "Put", n: id, data: data}, o)
}

// P22.5

func TestPutOfTheText(t *testing.T) {
	s, seq, e := Put(New(4095), 1, "a")
	if seq != 4095 || s.Next != 0 || e != api.OK {
		t.Errorf("Put(New(4095), 1, a) gives %+v, %d and %d", s, seq, e)
	}
}

func TestPutWrittenOut(t *testing.T) {
	a := api.Sent{ID: 1, Seq: 4095, Data: "a"}
	b := api.Sent{ID: 2, Seq: 0, Data: "b"}
	old := api.Sent{ID: 9, Seq: 4093, Tries: 3, Data: "old"}
	for _, c := range []struct {
		s    State
		id   int
		data string
		want outcome
	}{
		{State{Next: 4095}, 1, "a", outcome{s: written(0, 0, a), seq: 4095}},
		{State{Next: 4095, Size: 1}, 1, "a", outcome{s: written(0, 1, a), seq: 4095}},
		{State{Next: 4095, Size: 8}, 1, "a", outcome{s: written(0, 8, a), seq: 4095}},
		{State{}, 2, "b", outcome{s: written(1, 0, b)}},
		{written(0, 2, a), 2, "b", outcome{s: written(1, 2, a, b)}},
		{written(4095, 8, old), 1, "a", outcome{s: written(0, 8, old, a), seq: 4095}},
		{written(4095, 3, old), 1, "a", outcome{s: written(0, 3, old, a), seq: 4095}},
		{written(4095, 8, old, gone(10, 4094)), 1, "a", outcome{s: written(0, 8, old, gone(10, 4094), a), seq: 4095}},
		{written(0, 8, old, gone(10, 4094), a), 2, "b", outcome{s: written(1, 8, old, gone(10, 4094), a, b)}},
		// There is no room.
		{written(0, 0, a), 2, "b", outcome{e: 6}},
		{written(0, 1, a), 2, "b", outcome{e: 6}},
		{written(1, 2, a, b), 3, "c", outcome{e: 6}},
		{written(1, 2, a), 3, "c", outcome{e: 6}},
		{written(4095, 2, old), 1, "a", outcome{e: 6}},
		{asking(State{Next: 4095, Size: 8}), 1, "a", outcome{e: 6}},
		{asking(State{Next: 4095}), 1, "a", outcome{e: 6}},
		{asking(written(0, 8, a)), 2, "b", outcome{e: 6}},
		// Data that is too long comes first.
		{State{Next: 4095}, 1, octets(2048), outcome{s: written(0, 0, api.Sent{ID: 1, Seq: 4095, Data: octets(2048)}), seq: 4095}},
		{State{Next: 4095}, 1, octets(2049), outcome{e: 2}},
		{written(0, 0, a), 2, octets(2049), outcome{e: 2}},
		{asking(State{Next: 4095, Size: 8}), 1, octets(2049), outcome{e: 2}},
		{written(0, 0, a), 2, octets(2048), outcome{e: 6}},
		// Identifiers are any numbers, also one that is there.
		{State{}, 0, "", outcome{s: written(1, 0, sent(0, 0))}},
		{State{}, -1, "", outcome{s: written(1, 0, sent(-1, 0))}},
		{State{}, math.MinInt, "", outcome{s: written(1, 0, sent(math.MinInt, 0))}},
		{State{}, math.MaxInt, "", outcome{s: written(1, 0, sent(math.MaxInt, 0))}},
		{written(1, 2, sent(7, 0)), 7, "", outcome{s: written(2, 2, sent(7, 0), sent(7, 1)), seq: 1}},
	} {
		wantPut(t, c.s, c.id, c.data, c.want)
		wantModel(t, c.s, call{name: "Put", n: c.id, data: c.data})
	}
}

func TestPutIntoManyStates(t *testing.T) {
	for _, s := range append(small(5), large()...) {
		for _, n := range []int{0, 1, mostOctets, mostOctets + 1} {
			wantModel(t, s, call{name: "Put", n: 7, data: octets(n)})
		}
	}
}

func TestPutOfTheLengthOfData(t *testing.T) {
	for _, s := range []State{{}, {Next: 4095, Size: 64}, holding(4094, 4, "o-d"), holding(4094, 4, "oood"), asking(holding(4094, 4, "o"))} {
		for _, n := range []int{0, 1, 1023, 1024, 1025, 2046, 2047, 2048, 2049, 2050, 4096, 70000} {
			o := wantModel(t, s, call{name: "Put", n: 7, data: octets(n)})
			if (o.e == 2) != (n > 2048) {
				t.Fatalf("the model gives %d with %d octets", o.e, n)
			}
		}
	}
}

// Octets are data whatever their values are.
func TestPutOfAnyOctets(t *testing.T) {
	var all []byte
	for i := range 256 {
		all = append(all, byte(i))
	}
	for _, data := range []string{"", "\x00", "\xff\xfe", string(all)} {
		s := wantPut(t, State{Size: 4}, 1, data, outcome{s: written(1, 4, api.Sent{ID: 1, Data: data})})
		wantPut(t, s, 2, data, outcome{s: written(2, 4, api.Sent{ID: 1, Data: data}, api.Sent{ID: 2, Seq: 1, Data: data}), seq: 1})
	}
}

// Windows of all sizes are filled from every start, and then nothing more fits.
func TestPutUntilTheWindowIsFull(t *testing.T) {
	for start := range numbers {
		size := start % (mostSize + 1)
		s := State{Next: start, Size: size}
		n := 0
		for {
			next, seq, e := Put(s, n, "x")
			if e == api.ErrFull {
				break
			}
			if e != api.OK || seq != after(start, n) || next.Next != after(start, n+1) || len(next.List) != n+1 || next.List[n] != (api.Sent{ID: n, Seq: seq, Data: "x"}) {
				t.Fatalf("Put of %d into a window of %d from %d on gives %+v, %d and %d", n, size, start, next, seq, e)
			}
			s = next
			n++
		}
		if n != max(size, 1) {
			t.Fatalf("%d packets were put into a window of %d from %d on", n, size, start)
		}
		wantCheck(t, s, api.OK)
	}
}

func TestPutAtRandom(t *testing.T) {
	r := rand.New(rand.NewSource(5))
	for range 20000 {
		wantModel(t, randomState(r), call{name: "Put", n: int(r.Uint64()), data: octets(r.Intn(4))})
	}
}

// P22.6

func TestDueOfTheText(t *testing.T) {
	s := written(6, 4, sent(1, 3), gone(2, 4), sent(3, 5))
	wantDue(t, s, 2, sent(1, 3), sent(3, 5))
}

func TestDueWrittenOut(t *testing.T) {
	a, b, c, d := tried(1, 4094, 2), gone(2, 4095), sent(3, 1), api.Sent{ID: 4, Seq: 2, Tries: 1, Data: "d"}
	s := written(3, 8, a, b, c, d)
	for _, x := range []struct {
		most int
		want []api.Sent
	}{
		{math.MinInt, nil}, {-4096, nil}, {-1, nil}, {0, nil}, {1, []api.Sent{a}}, {2, []api.Sent{a, c}}, {3, []api.Sent{a, c, d}},
		{4, []api.Sent{a, c, d}}, {5, []api.Sent{a, c, d}}, {1 << 40, []api.Sent{a, c, d}}, {math.MaxInt, []api.Sent{a, c, d}},
	} {
		wantDue(t, s, x.most, x.want...)
		wantDue(t, asking(s), x.most, x.want...)
		wantDue(t, State{Next: 9, Size: 8}, x.most)
	}
}

func TestDueOfManyStates(t *testing.T) {
	for _, s := range append(small(5), large()...) {
		n := len(s.List)
		for _, most := range []int{math.MinInt, -1, 0, 1, 2, 3, n - 1, n, n + 1, math.MaxInt} {
			wantDue(t, s, most, modelOf(s).due(most)...)
		}
	}
}

func TestDueOfAllLimits(t *testing.T) {
	for _, s := range large() {
		if s.Size == mostSize {
			for most := -3; most < 70; most++ {
				wantDue(t, s, most, modelOf(s).due(most)...)
			}
		}
	}
}

func TestDueAtRandom(t *testing.T) {
	r := rand.New(rand.NewSource(6))
	for range 20000 {
		s := randomState(r)
		most := r.Intn(70) - 3
		wantDue(t, s, most, modelOf(s).due(most)...)
	}
}

// P22.9

func TestConfirmOfTheText(t *testing.T) {
	s := asking(holding(7, 8, "oo"))
	wantRoom(t, s, 0)
	wantRoom(t, Confirm(s), 6)
}

func TestConfirmOfManyStates(t *testing.T) {
	for _, s := range append(small(5), large()...) {
		n := s
		n.Request = false
		want(t, s, call{name: "Confirm"}, outcome{s: n})
		wantModel(t, s, call{name: "Confirm"})
		// If the window is not full, there is room.
		used := 0
		if len(s.List) > 0 {
			used = steps(s.List[0].Seq, s.Next)
		}
		if used < max(s.Size, 1) && Room(Confirm(s)) <= 0 {
			t.Fatalf("after Confirm the room of %+v is %d", s, Room(Confirm(s)))
		}
	}
}

// P22.10

// wantResize checks both results of Resize.
func wantResize(t *testing.T, s State, size int, n State, e api.Errno) {
	t.Helper()
	want(t, s, call{name: "Resize", n: size}, outcome{s: n, e: e})
}

func TestResizeOfTheText(t *testing.T) {
	wantResize(t, New(0), 65, State{}, 4)
}

func TestResizeWrittenOut(t *testing.T) {
	empty := State{Next: 9, Size: 8}
	for _, c := range []struct {
		s    State
		size int
		want State
		e    api.Errno
	}{
		{empty, 0, State{Next: 9}, 0},
		{empty, 1, State{Next: 9, Size: 1}, 0},
		{empty, 8, empty, 0},
		{empty, 63, State{Next: 9, Size: 63}, 0},
		{empty, 64, State{Next: 9, Size: 64}, 0},
		{State{Next: 4095}, 4, State{Next: 4095, Size: 4}, 0},
		{State{Next: 4095, List: []api.Sent{}}, 4, State{Next: 4095, Size: 4}, 0},
		{empty, 65, State{}, 4},
		{empty, -1, State{}, 4},
		{empty, math.MinInt, State{}, 4},
		{empty, math.MaxInt, State{}, 4},
		{holding(9, 8, "o"), 8, State{}, 9},
		{holding(9, 8, "o"), 0, State{}, 9},
		{holding(9, 0, "o"), 4, State{}, 9},
		{holding(9, 8, "od-o"), 64, State{}, 9},
		{asking(empty), 4, State{}, 9},
		{asking(empty), 8, State{}, 9},
		{asking(empty), 0, State{}, 9},
		{asking(State{Next: 9}), 0, State{}, 9},
		{asking(holding(9, 8, "o")), 4, State{}, 9},
		// The size comes first.
		{holding(9, 8, "o"), 65, State{}, 4},
		{holding(9, 8, "o"), -1, State{}, 4},
		{asking(empty), 65, State{}, 4},
		{asking(empty), -1, State{}, 4},
		{asking(holding(9, 8, "o")), 65, State{}, 4},
	} {
		wantResize(t, c.s, c.size, c.want, c.e)
	}
}

func TestResizeToAllSizes(t *testing.T) {
	for _, s := range small(2) {
		for size := -3; size <= mostSize+3; size++ {
			wantModel(t, s, call{name: "Resize", n: size})
		}
		for _, size := range ints {
			wantModel(t, s, call{name: "Resize", n: size})
		}
	}
	for size := -5000; size < 5000; size++ {
		wantModel(t, State{Next: 7, Size: 3}, call{name: "Resize", n: size})
	}
}

// P22.11

// wantReset checks both results of Reset.
func wantReset(t *testing.T, s State, next int, ids ...int) {
	t.Helper()
	want(t, s, call{name: "Reset"}, outcome{s: State{Next: next}, ids: ids})
}

func TestResetOfTheText(t *testing.T) {
	for _, s := range append(small(3), large()...) {
		n, _ := Reset(s)
		wantRoom(t, n, 1)
	}
}

func TestResetWrittenOut(t *testing.T) {
	wantReset(t, State{}, 0)
	wantReset(t, State{Next: 4095, Size: 64}, 4095)
	wantReset(t, asking(State{Next: 4095, Size: 64}), 4095)
	wantReset(t, holding(4095, 0, "o"), 0, 100)
	wantReset(t, holding(4094, 8, "ooo"), 1, 100, 101, 102)
	wantReset(t, holding(4094, 8, "odo"), 1, 100, 102)
	wantReset(t, holding(4094, 8, "odd"), 1, 100)
	wantReset(t, holding(4094, 8, "o-d-o-do"), 6, 100, 104, 107)
	wantReset(t, asking(holding(4094, 8, "o-d-o-do")), 6, 100, 104, 107)
	// Identifiers are in the order of the list, also equal ones.
	wantReset(t, written(6, 4, sent(9, 3), sent(-5, 4), sent(9, 5)), 6, 9, -5, 9)
}

func TestResetOfManyStates(t *testing.T) {
	for _, s := range append(small(5), large()...) {
		wantModel(t, s, call{name: "Reset"})
	}
	r := rand.New(rand.NewSource(11))
	for range 10000 {
		wantModel(t, randomState(r), call{name: "Reset"})
	}
}

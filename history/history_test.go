package history

import (
	"math"
	"math/rand"
	"testing"

	"airtime/api"
)

// The results as the chapter states them, so that a changed constant of the program is noticed.
const (
	fresh = 0
	again = 1
)

// numbers are sequence and fragment numbers, at and beyond their limits, and both ends of the range of int.
var numbers = []int{math.MinInt, math.MinInt + 1, math.MinInt32, -4096, -1, 0, 1, 5, 15, 16, 4095, 4096, 4097, math.MaxInt32 + 1, math.MaxInt - 1, math.MaxInt}

// value is a sequence control value.
type value struct {
	seq  int
	frag int
}

// last is the history whose value was accepted last.
func (v value) last() api.Last {
	return api.Last{Valid: true, Seq: v.seq, Frag: v.frag}
}

// wantNote checks both results of Note, and returns the new history.
func wantNote(t *testing.T, l api.Last, v value, want api.Last, result int) api.Last {
	t.Helper()
	m, n := Note(l, v.seq, v.frag)
	if m != want || n != result {
		t.Fatalf("Note of %+v, %d and %d gives %+v and %d, want %+v and %d", l, v.seq, v.frag, m, n, want, result)
	}
	return m
}

// wantFresh checks that the value is new to the history.
func wantFresh(t *testing.T, l api.Last, v value) api.Last {
	t.Helper()
	return wantNote(t, l, v, v.last(), fresh)
}

// wantAgain checks that the history has the value already.
func wantAgain(t *testing.T, l api.Last, v value) {
	t.Helper()
	wantNote(t, l, v, l, again)
}

// P19.1

func TestResults(t *testing.T) {
	if Fresh != fresh || Again != again {
		t.Errorf("Fresh is %d and Again %d, want %d and %d", Fresh, Again, fresh, again)
	}
}

func TestNoteOfTheText(t *testing.T) {
	l := wantFresh(t, api.Last{}, value{seq: 5})
	wantAgain(t, l, value{seq: 5})
	wantFresh(t, l, value{seq: 5, frag: 1})
}

func TestNoteWrittenOut(t *testing.T) {
	for _, c := range []struct {
		l         api.Last
		seq, frag int
		want      api.Last
		result    int
	}{
		{api.Last{}, 0, 0, api.Last{Valid: true}, 0},
		{api.Last{Valid: true}, 0, 0, api.Last{Valid: true}, 1},
		{api.Last{Seq: 7, Frag: 2}, 7, 2, api.Last{Valid: true, Seq: 7, Frag: 2}, 0},
		{api.Last{Valid: true, Seq: 7, Frag: 2}, 7, 2, api.Last{Valid: true, Seq: 7, Frag: 2}, 1},
		{api.Last{Valid: true, Seq: 7, Frag: 2}, 7, 3, api.Last{Valid: true, Seq: 7, Frag: 3}, 0},
		{api.Last{Valid: true, Seq: 7, Frag: 2}, 8, 2, api.Last{Valid: true, Seq: 8, Frag: 2}, 0},
		{api.Last{Valid: true, Seq: 7, Frag: 2}, 2, 7, api.Last{Valid: true, Seq: 2, Frag: 7}, 0},
		{api.Last{Valid: true, Seq: 7, Frag: 2}, 0, 0, api.Last{Valid: true}, 0},
		{api.Last{Valid: true, Seq: 4095}, 4095, 0, api.Last{Valid: true, Seq: 4095}, 1},
		{api.Last{Valid: true, Seq: 4095}, 4096, 0, api.Last{Valid: true, Seq: 4096}, 0},
		// Numbers are not counted modulo 4096 here: 4096 is not 0.
		{api.Last{Valid: true}, 4096, 0, api.Last{Valid: true, Seq: 4096}, 0},
		{api.Last{Valid: true, Seq: 4096}, 0, 0, api.Last{Valid: true}, 0},
		{api.Last{Valid: true, Seq: 4095}, -1, 0, api.Last{Valid: true, Seq: -1}, 0},
		{api.Last{Valid: true, Seq: 3}, 3, 16, api.Last{Valid: true, Seq: 3, Frag: 16}, 0},
		{api.Last{Valid: true, Seq: 3, Frag: 16}, 3, 16, api.Last{Valid: true, Seq: 3, Frag: 16}, 1},
		{api.Last{Valid: true, Seq: -1, Frag: -1}, -1, -1, api.Last{Valid: true, Seq: -1, Frag: -1}, 1},
		{api.Last{Valid: true, Seq: math.MinInt, Frag: math.MaxInt}, math.MinInt, math.MaxInt, api.Last{Valid: true, Seq: math.MinInt, Frag: math.MaxInt}, 1},
		{api.Last{Valid: true, Seq: math.MinInt, Frag: math.MaxInt}, math.MaxInt, math.MinInt, api.Last{Valid: true, Seq: math.MaxInt, Frag: math.MinInt}, 0},
		{api.Last{Seq: math.MaxInt, Frag: math.MinInt}, math.MaxInt, math.MinInt, api.Last{Valid: true, Seq: math.MaxInt, Frag: math.MinInt}, 0},
	} {
		wantNote(t, c.l, value{seq: c.seq, frag: c.frag}, c.want, c.result)
	}
}

func TestNoteOfAllNumbers(t *testing.T) {
	for _, a := range numbers {
		for _, b := range numbers {
			for _, seq := range numbers {
				for _, frag := range numbers {
					v := value{seq: seq, frag: frag}
					wantFresh(t, api.Last{Seq: a, Frag: b}, v)
					if a == seq && b == frag {
						wantAgain(t, value{seq: a, frag: b}.last(), v)
					} else {
						wantFresh(t, value{seq: a, frag: b}.last(), v)
					}
				}
			}
		}
	}
}

// One bit of one of the numbers is what the two values differ in.
func TestNoteOfNearlyTheSame(t *testing.T) {
	for _, v := range []value{{}, {seq: 5, frag: 3}, {seq: 4095, frag: 15}, {seq: math.MinInt, frag: -1}, {seq: -1, frag: math.MaxInt}} {
		for bit := range 64 {
			// Shifted as a uint64, so that the last bit is the sign.
			d := int(uint64(1) << bit)
			wantFresh(t, v.last(), value{seq: v.seq ^ d, frag: v.frag})
			wantFresh(t, v.last(), value{seq: v.seq, frag: v.frag ^ d})
			wantFresh(t, v.last(), value{seq: v.seq ^ d, frag: v.frag ^ d})
		}
	}
}

func TestNoteAtRandom(t *testing.T) {
	r := rand.New(rand.NewSource(19))
	number := func() int {
		return int(r.Uint64() >> r.Intn(64))
	}
	for range 20000 {
		v := value{seq: number(), frag: number()}
		l := api.Last{Valid: r.Intn(2) == 0, Seq: number(), Frag: number()}
		if r.Intn(2) == 0 {
			l.Seq = v.seq
		}
		if r.Intn(2) == 0 {
			l.Frag = v.frag
		}
		if l.Valid && l.Seq == v.seq && l.Frag == v.frag {
			wantAgain(t, l, v)
		} else {
			wantFresh(t, l, v)
		}
	}
}

// P19.6 (values)

// wantNotes records values one after the other; expected is what the results must be.
func wantNotes(t *testing.T, values []value, expected []int) {
	t.Helper()
	var l api.Last
	for i, v := range values {
		var n int
		l, n = Note(l, v.seq, v.frag)
		if n != expected[i] {
			t.Fatalf("Note number %d of %+v gives %d, want %d", i, values, n, expected[i])
		}
	}
}

func TestNotesWrittenOut(t *testing.T) {
	a, b, c := value{seq: 5}, value{seq: 5, frag: 1}, value{seq: 6}
	wantNotes(t, []value{a}, []int{0})
	wantNotes(t, []value{a, a, a}, []int{0, 1, 1})
	wantNotes(t, []value{a, b, a, b}, []int{0, 0, 0, 0})
	wantNotes(t, []value{a, c, a, a}, []int{0, 0, 0, 1})
	wantNotes(t, []value{a, a, b, b, c, c, a, b}, []int{0, 1, 0, 1, 0, 1, 0, 0})
	wantNotes(t, []value{{}, {}, {seq: 1}, {}}, []int{0, 1, 0, 0})
}

// Every sequence of 6 of these values is recorded; what was recorded last is found by looking back.
func TestNotesOfAllSequences(t *testing.T) {
	few := []value{{}, {frag: 1}, {seq: 1}, {seq: 1, frag: 1}, {seq: 4096}}
	const length = 6
	values := make([]value, length)
	expected := make([]int, length)
	var extend func(i int)
	extend = func(i int) {
		if i == length {
			wantNotes(t, values, expected)
			return
		}
		for _, v := range few {
			values[i], expected[i] = v, fresh
			if i > 0 && values[i-1] == v {
				expected[i] = again
			}
			extend(i + 1)
		}
	}
	extend(0)
}

// Of a long sequence, half of the values repeat the one before.
func TestNotesAtRandom(t *testing.T) {
	r := rand.New(rand.NewSource(20))
	for range 200 {
		var values []value
		var expected []int
		few := 1 + r.Intn(len(numbers))
		for i := range 100 {
			v := value{seq: numbers[r.Intn(few)], frag: numbers[r.Intn(few)]}
			if i > 0 && r.Intn(2) == 0 {
				v = values[i-1]
			}
			n := fresh
			if i > 0 && v == values[i-1] {
				n = again
			}
			values, expected = append(values, v), append(expected, n)
		}
		wantNotes(t, values, expected)
	}
}

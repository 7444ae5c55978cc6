package score

import (
	"math/rand"
	"testing"

	"airtime/api"
)

// P21.7

func TestNewIsValid(t *testing.T) {
	for _, start := range starts {
		for size := 1; size <= mostSize; size++ {
			s, e := New(start, size)
			if e != 0 {
				t.Errorf("New(%d, %d) gives %d", start, size, e)
			}
			wantCheck(t, s, 0)
		}
	}
}

// call is a call of Note or Move with a number.
type call struct {
	move bool
	seq  int
}

// do makes the call, and checks that its result is what the chapter says, and valid.
func (c call) do(t *testing.T, s api.Score) api.Score {
	t.Helper()
	if c.move {
		return modelMove(t, s, c.seq)
	}
	return modelNote(t, s, c.seq)
}

// fewCalls are calls with numbers in, beyond and before a window that begins at or soon after start.
func fewCalls(start int) []call {
	l := []call{{false, numbers}, {true, -1}, {false, after(start, 2047)}, {false, after(start, 2048)}}
	for _, d := range []int{-1, 0, 1, 2, 3, 5} {
		l = append(l, call{false, after(start, d)})
	}
	for _, d := range []int{-1, 1, 2, 4, 2048} {
		l = append(l, call{true, after(start, d)})
	}
	return l
}

func TestAllShortSequences(t *testing.T) {
	for _, start := range []int{0, 2047, 4094} {
		for size := 1; size <= 4; size++ {
			l := fewCalls(start)
			var extend func(s api.Score, left int)
			extend = func(s api.Score, left int) {
				if left == 0 {
					return
				}
				for _, c := range l {
					extend(c.do(t, s), left-1)
				}
			}
			extend(api.Score{Start: start, Size: size}, 4)
		}
	}
}

// P21.8

// contents are the numbers for which Has is true.
func contents(s api.Score) map[int]bool {
	l := map[int]bool{}
	for n := range numbers {
		if Has(s, n) {
			l[n] = true
		}
	}
	return l
}

// wantContents checks that Has is true for exactly those numbers of the new window that were recorded before, and for
// the number noted if it is in the new window; noted is no number if the scoreboard was moved.
func wantContents(t *testing.T, before, s api.Score, noted int) {
	t.Helper()
	was, is := contents(before), contents(s)
	for n := range numbers {
		want := steps(s.Start, n) < s.Size && (was[n] || n == noted)
		if is[n] != want {
			t.Errorf("from %s to %s with %d: Has of %d is %v, want %v", text(before), text(s), noted, n, is[n], want)
		}
	}
}

func TestContents(t *testing.T) {
	const none = -1
	for _, start := range []int{0, 2000, 4090} {
		for _, size := range []int{1, 2, 5, 63, 64} {
			for _, s := range []api.Score{board(start, size), full(start, size), board(start, size, 0, size/2, size-1)} {
				for _, d := range []int{0, 1, size / 2, size - 1, size, size + 1, 2*size - 2, 2*size - 1, 2 * size, 1000, 2046, 2047, 2048, 4000, 4095} {
					n := after(start, d)
					wantContents(t, s, Note(s, n), n)
					wantContents(t, s, Move(s, n), none)
					if d < nearest {
						wantHas(t, Note(s, n), n, true)
					}
				}
			}
		}
	}
}

// Moving never adds a bit, so that as many are left as the new window has of the old ones.
func TestMovingAddsNoBit(t *testing.T) {
	r := rand.New(rand.NewSource(218))
	for range 30000 {
		s := randomBoard(r)
		n := Move(s, after(s.Start, r.Intn(200)))
		for i := range 64 {
			seq := after(n.Start, i)
			if n.Map>>i%2 == 1 && !Has(s, seq) {
				t.Errorf("Move from %s to %s adds %d", text(s), text(n), seq)
			}
		}
	}
}

// run is a sequence of calls. Its numbers are not counted modulo 4096 but on and on; recorded are all that were noted in
// or beyond the window, also those that it has left.
type run struct {
	s        api.Score
	start    int
	recorded map[int]bool
}

// note notes a number at a distance from Start that is from -2048 to 2047.
func (x *run) note(distance int) {
	n := x.start + distance
	x.s = Note(x.s, n%numbers)
	if distance < 0 {
		return
	}
	x.start = max(x.start, n-x.s.Size+1)
	x.recorded[n] = true
}

// move moves the start by a distance from -2048 to 2047.
func (x *run) move(distance int) {
	x.s = Move(x.s, (x.start+distance)%numbers)
	x.start = max(x.start, x.start+distance)
}

// check checks that the scoreboard is valid and records the right numbers.
func (x *run) check(t *testing.T) {
	t.Helper()
	wantCheck(t, x.s, 0)
	if x.s.Start != x.start%numbers {
		t.Fatalf("%s begins at %d, want %d", text(x.s), x.s.Start, x.start%numbers)
	}
	for n := x.start - x.s.Size; n < x.start+2*x.s.Size; n++ {
		inside := x.start <= n && n < x.start+x.s.Size
		wantHas(t, x.s, n%numbers, inside && x.recorded[n])
	}
	start, m := Report(x.s)
	for i := range 64 {
		inside := i < x.s.Size
		if got := m>>i%2 == 1; start != x.s.Start || got != (inside && x.recorded[x.start+i]) {
			t.Fatalf("Report of %s gives %d and bit %d as %v", text(x.s), start, i, got)
		}
	}
}

// distance is one that a call of a run may have: mostly in or just beyond the window, sometimes far away or before it.
func distance(r *rand.Rand, size int) int {
	switch r.Intn(20) {
	case 0:
		return r.Intn(numbers) - nearest
	case 1:
		return -nearest + r.Intn(3)
	case 2:
		return nearest - 1 - r.Intn(3)
	case 3:
		return -1 - r.Intn(size)
	case 4, 5:
		return r.Intn(2*size + 1)
	default:
		return r.Intn(size + 1)
	}
}

func TestLongRuns(t *testing.T) {
	r := rand.New(rand.NewSource(217))
	for _, size := range []int{1, 2, 3, 4, 8, 31, 32, 33, 62, 63, 64} {
		for range 5 {
			start := r.Intn(numbers)
			s, _ := New(start, size)
			// A start above 4095 keeps the numbers before it from being negative.
			x := &run{s: s, start: start + numbers, recorded: map[int]bool{}}
			for range 1000 {
				if r.Intn(4) == 0 {
					x.move(distance(r, size))
				} else {
					x.note(distance(r, size))
				}
				x.check(t)
				if t.Failed() {
					return
				}
			}
		}
	}
}

// A recipient notes all numbers but a few in order, as often as they go around: the window holds all but these.
func TestNumbersInOrder(t *testing.T) {
	for _, size := range []int{1, 7, 63, 64} {
		x := &run{s: api.Score{Start: 0, Size: size}, recorded: map[int]bool{}}
		for n := range 3 * numbers {
			if n%11 == 5 {
				continue
			}
			x.note(n - x.start)
			if n > 2*size {
				x.check(t)
			}
			if t.Failed() {
				return
			}
		}
	}
}

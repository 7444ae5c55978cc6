package score

import (
	"math"
	"math/rand"
	"testing"

	"airtime/api"
)

// distances are those at which something may change: in and around the window, around twice its size, at 2048, and before Start.
func distances(size int) []int {
	l := []int{100, 1000, 2000, 3000, 4000}
	for d := -4; d <= size+4; d++ {
		l = append(l, after(0, d))
	}
	for d := -3; d <= 3; d++ {
		l = append(l, 64+d, 2*size+d+3, 128+d, nearest+d, nearest+size+d, nearest-size+d, numbers-size+d-1)
	}
	return l
}

// small are scoreboards of up to 6 numbers with all sets of bits.
func small() []api.Score {
	var l []api.Score
	for _, start := range starts {
		for size := 1; size <= 6; size++ {
			l = append(l, subsets(start, size)...)
		}
	}
	return l
}

// everySize are scoreboards of every size that are empty, that hold some bits and that hold all.
func everySize() []api.Score {
	var l []api.Score
	for _, start := range starts {
		for size := 1; size <= mostSize; size++ {
			l = append(l, boards(start, size)...)
		}
	}
	return l
}

// randomBoard is a valid scoreboard.
func randomBoard(r *rand.Rand) api.Score {
	s := api.Score{Start: r.Intn(numbers), Size: 1 + r.Intn(mostSize), Map: r.Uint64()}
	if r.Intn(2) == 0 {
		s.Map &= r.Uint64()
	}
	s.Map &= all(s.Size)
	return s
}

// P21.3

func TestNoteOfTheText(t *testing.T) {
	s, _ := New(4094, 4)
	wantNote(t, s, 1, board(4094, 4, 3))
	wantNote(t, Note(s, 1), 2, board(4095, 4, 2, 3))
}

func TestNoteWrittenOut(t *testing.T) {
	for _, c := range []struct {
		s    api.Score
		seq  int
		want api.Score
	}{
		// The window, from its first number to its last one.
		{board(4094, 4), 4094, board(4094, 4, 0)},
		{board(4094, 4), 4095, board(4094, 4, 1)},
		{board(4094, 4), 0, board(4094, 4, 2)},
		{board(4094, 4), 1, board(4094, 4, 3)},
		{board(4094, 4, 1, 3), 4094, board(4094, 4, 0, 1, 3)},
		{board(4094, 4, 1, 3), 4095, board(4094, 4, 1, 3)},
		{board(4094, 4, 1, 3), 0, board(4094, 4, 1, 2, 3)},
		{board(4094, 4, 1, 3), 1, board(4094, 4, 1, 3)},
		{full(4094, 4), 0, full(4094, 4)},
		{board(0, 64), 0, board(0, 64, 0)},
		{board(0, 64), 63, board(0, 64, 63)},
		{board(0, 64, 63), 0, board(0, 64, 0, 63)},
		{full(4060, 64), 27, full(4060, 64)},
		// Beyond the window: it moves by 1, 2, 3, 4 and more numbers.
		{board(4094, 4, 0, 1, 3), 2, board(4095, 4, 0, 2, 3)},
		{board(4094, 4, 0, 1, 3), 3, board(0, 4, 1, 3)},
		{board(4094, 4, 0, 1, 3), 4, board(1, 4, 0, 3)},
		{board(4094, 4, 0, 1, 3), 5, board(2, 4, 3)},
		{board(4094, 4, 0, 1, 3), 6, board(3, 4, 3)},
		{full(4094, 4), 2, full(4095, 4)},
		{full(4094, 4), 2044, board(2041, 4, 3)},
		{full(4094, 4), 2045, board(2042, 4, 3)},
		{board(0, 64), 64, board(1, 64, 63)},
		{full(0, 64), 64, full(1, 64)},
		{full(0, 64), 65, api.Score{Start: 2, Size: 64, Map: math.MaxUint64 - 1<<62}},
		{full(0, 64), 126, board(63, 64, 0, 63)},
		{full(0, 64), 127, board(64, 64, 63)},
		{full(0, 64), 128, board(65, 64, 63)},
		{full(0, 64), 2047, board(1984, 64, 63)},
		{full(1, 63), 64, full(2, 63)},
		{full(2049, 64), 0, board(4033, 64, 63)},
		// Before the window: from the distance 2048 on.
		{board(4094, 4, 0, 1, 3), 2046, board(4094, 4, 0, 1, 3)},
		{board(4094, 4, 0, 1, 3), 2047, board(4094, 4, 0, 1, 3)},
		{board(4094, 4, 0, 1, 3), 4093, board(4094, 4, 0, 1, 3)},
		{board(4094, 4), 4093, board(4094, 4)},
		{board(0, 64), 2048, board(0, 64)},
		{board(0, 64), 4095, board(0, 64)},
		// A window of one number.
		{board(4095, 1), 4095, board(4095, 1, 0)},
		{board(4095, 1), 0, board(0, 1, 0)},
		{board(4095, 1, 0), 0, board(0, 1, 0)},
		{board(4095, 1, 0), 4095, board(4095, 1, 0)},
		{board(4095, 1), 2046, board(2046, 1, 0)},
		{board(4095, 1), 2047, board(4095, 1)},
		{board(4095, 1, 0), 2047, board(4095, 1, 0)},
		{board(4095, 1), 4094, board(4095, 1)},
	} {
		wantNote(t, c.s, c.seq, c.want)
	}
}

// No numbers, of which some are in or beyond the window modulo 4096.
func TestNoteOfNoNumbers(t *testing.T) {
	for _, s := range []api.Score{board(4094, 4), board(4094, 4, 1, 3), board(0, 4), board(0, 64), full(0, 64), board(4095, 1), board(4000, 63, 5)} {
		for _, seq := range noNumbers {
			wantNote(t, s, seq, s)
		}
	}
}

func TestNoteAtTheDistancesThatMatter(t *testing.T) {
	for _, s := range append(small(), everySize()...) {
		for _, d := range distances(s.Size) {
			modelNote(t, s, after(s.Start, d))
		}
	}
}

func TestNoteOfAllNumbers(t *testing.T) {
	for _, start := range []int{0, 2048, 4094} {
		for _, size := range []int{1, 2, 31, 63, 64} {
			for _, s := range []api.Score{board(start, size), full(start, size), board(start, size, 0, size/2)} {
				for seq := -100; seq < numbers+100; seq++ {
					modelNote(t, s, seq)
				}
			}
		}
	}
}

func TestNoteOfRandomNumbers(t *testing.T) {
	r := rand.New(rand.NewSource(213))
	for range 50000 {
		s := randomBoard(r)
		modelNote(t, s, after(s.Start, r.Intn(numbers>>r.Intn(7))))
	}
}

// P21.4

func TestMoveOfTheText(t *testing.T) {
	s := board(10, 8, 0, 5)
	wantMove(t, s, 14, board(14, 8, 1))
	wantMove(t, s, 9, s)
}

func TestMoveWrittenOut(t *testing.T) {
	for _, c := range []struct {
		s     api.Score
		start int
		want  api.Score
	}{
		// Into the window.
		{board(4094, 4, 0, 1, 3), 4094, board(4094, 4, 0, 1, 3)},
		{board(4094, 4, 0, 1, 3), 4095, board(4095, 4, 0, 2)},
		{board(4094, 4, 0, 1, 3), 0, board(0, 4, 1)},
		{board(4094, 4, 0, 1, 3), 1, board(1, 4, 0)},
		{full(0, 64), 0, full(0, 64)},
		{full(0, 64), 1, api.Score{Start: 1, Size: 64, Map: 1<<63 - 1}},
		{full(0, 64), 62, board(62, 64, 0, 1)},
		{full(0, 64), 63, board(63, 64, 0)},
		// Beyond it.
		{board(4094, 4, 0, 1, 3), 2, board(2, 4)},
		{full(4094, 4), 2, board(2, 4)},
		{full(4094, 4), 61, board(61, 4)},
		{full(4094, 4), 62, board(62, 4)},
		{full(4094, 4), 63, board(63, 4)},
		{full(4094, 4), 2045, board(2045, 4)},
		{full(0, 64), 64, board(64, 64)},
		{full(0, 64), 65, board(65, 64)},
		{full(0, 64), 128, board(128, 64)},
		{full(0, 64), 2047, board(2047, 64)},
		{full(0, 63), 62, board(62, 63, 0)},
		{full(0, 63), 63, board(63, 63)},
		{board(10, 8, 0, 5), 18, board(18, 8)},
		{board(10, 8, 0, 5), 100, board(100, 8)},
		{board(10, 8), 2057, board(2057, 8)},
		{full(4095, 1), 0, board(0, 1)},
		{board(2049, 64, 63), 0, board(0, 64)},
		// Before it: from the distance 2048 on.
		{board(10, 8, 0, 5), 2058, board(10, 8, 0, 5)},
		{board(4094, 4, 0, 1, 3), 2046, board(4094, 4, 0, 1, 3)},
		{board(4094, 4, 0, 1, 3), 4093, board(4094, 4, 0, 1, 3)},
		{full(0, 64), 2048, full(0, 64)},
		{full(0, 64), 4095, full(0, 64)},
		{board(0, 64), 2048, board(0, 64)},
		{full(4095, 1), 4094, full(4095, 1)},
		{full(4095, 1), 2047, full(4095, 1)},
	} {
		wantMove(t, c.s, c.start, c.want)
	}
}

// No numbers, of which some are in or beyond the window modulo 4096.
func TestMoveToNoNumbers(t *testing.T) {
	for _, s := range []api.Score{board(4094, 4), board(4094, 4, 1, 3), board(0, 4), board(0, 64), full(0, 64), board(4095, 1, 0), board(4000, 63, 5)} {
		for _, start := range noNumbers {
			wantMove(t, s, start, s)
		}
	}
}

func TestMoveToTheDistancesThatMatter(t *testing.T) {
	for _, s := range append(small(), everySize()...) {
		for _, d := range distances(s.Size) {
			modelMove(t, s, after(s.Start, d))
		}
	}
}

func TestMoveToAllNumbers(t *testing.T) {
	for _, start := range []int{0, 2048, 4094} {
		for _, size := range []int{1, 2, 31, 63, 64} {
			for _, s := range []api.Score{board(start, size), full(start, size), board(start, size, 0, size/2)} {
				for to := -100; to < numbers+100; to++ {
					modelMove(t, s, to)
				}
			}
		}
	}
}

func TestMoveToRandomNumbers(t *testing.T) {
	r := rand.New(rand.NewSource(214))
	for range 50000 {
		s := randomBoard(r)
		modelMove(t, s, after(s.Start, r.Intn(numbers>>r.Intn(7))))
	}
}

// Moving by d numbers removes the first d bits: one bit after the other, for every size and every distance up to 70.
func TestMovingShiftsEachBit(t *testing.T) {
	for _, start := range starts {
		for size := 1; size <= mostSize; size++ {
			for bit := range size {
				for d := range 71 {
					want := board(after(start, d), size)
					if bit >= d {
						want.Map = 1 << (bit - d)
					}
					wantMove(t, board(start, size, bit), after(start, d), want)
				}
			}
		}
	}
}

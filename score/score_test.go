package score

import (
	"math"
	"math/rand"
	"testing"

	"airtime/api"
)

// possible is what the chapter says of a Start and a Size.
func possible(start, size int) bool {
	return isNumber(start) && 1 <= size && size <= mostSize
}

// P21.1

// wantNew checks both results of New.
func wantNew(t *testing.T, start, size int, want api.Score, e api.Errno) {
	t.Helper()
	s, got := New(start, size)
	if got != e || s != want {
		t.Errorf("New(%d, %d) gives %s and %d, want %s and %d", start, size, text(s), got, text(want), e)
	}
}

// defNew checks New against what the chapter says of it.
func defNew(t *testing.T, start, size int) {
	t.Helper()
	if possible(start, size) {
		wantNew(t, start, size, api.Score{Start: start, Size: size}, 0)
	} else {
		wantNew(t, start, size, api.Score{}, 4)
	}
}

func TestNewWrittenOut(t *testing.T) {
	for _, c := range [][2]int{{0, 1}, {0, 64}, {4095, 1}, {4095, 64}, {7, 4}, {64, 7}, {4094, 4}, {2048, 63}} {
		wantNew(t, c[0], c[1], api.Score{Start: c[0], Size: c[1]}, 0)
	}
	for _, c := range [][2]int{{-1, 1}, {4096, 1}, {4096, 64}, {0, 0}, {0, 65}, {0, -1}, {4095, 0}, {4095, 65}, {-1, 0}, {4096, 65}, {-4096, 4}, {8192, 4},
		{math.MinInt, 4}, {math.MaxInt, 4}, {4, math.MinInt}, {4, math.MaxInt}, {math.MinInt, math.MinInt}, {math.MaxInt, math.MaxInt}} {
		wantNew(t, c[0], c[1], api.Score{}, 4)
	}
}

func TestNewOfAllStartsAndSizes(t *testing.T) {
	for _, start := range ints {
		for _, size := range ints {
			defNew(t, start, size)
		}
		for size := -70; size <= 140; size++ {
			defNew(t, start, size)
		}
	}
	for start := -5000; start <= 9000; start++ {
		for _, size := range []int{-1, 0, 1, 2, 63, 64, 65} {
			defNew(t, start, size)
		}
	}
}

// P21.2

// checkOf is what the chapter says of Check.
func checkOf(s api.Score) api.Errno {
	if !possible(s.Start, s.Size) {
		return 4
	}
	for i := s.Size; i < 64; i++ {
		if s.Map>>i%2 == 1 {
			return 3
		}
	}
	return 0
}

func TestCheckWrittenOut(t *testing.T) {
	for _, c := range []struct {
		s    api.Score
		want api.Errno
	}{
		{api.Score{}, 4},
		{board(0, 1), 0},
		{board(0, 1, 0), 0},
		{board(0, 1, 1), 3},
		{board(0, 1, 0, 1), 3},
		{board(0, 1, 63), 3},
		{board(4095, 2, 1), 0},
		{board(4095, 2, 2), 3},
		{board(10, 8, 0, 5), 0},
		{board(10, 8, 0, 5, 7), 0},
		{board(10, 8, 0, 5, 8), 3},
		{board(0, 63, 62), 0},
		{board(0, 63, 63), 3},
		{board(0, 63, 0, 62, 63), 3},
		{board(0, 64, 63), 0},
		{board(4095, 64, 0, 63), 0},
		{full(4095, 64), 0},
		{full(4095, 63), 0},
		{api.Score{Start: 4095, Size: 63, Map: math.MaxUint64}, 3},
		{api.Score{Start: 4095, Size: 1, Map: math.MaxUint64}, 3},
		{board(-1, 4), 4},
		{board(4096, 4), 4},
		{board(0, 0), 4},
		{board(0, -1), 4},
		{board(0, 65), 4},
		{full(0, 64), 0},
		// Both errors: that of the numbers comes first.
		{board(-1, 4, 4), 4},
		{board(4096, 4, 63), 4},
		{board(4096, 3, 3), 4},
		{board(0, 0, 0), 4},
		{board(0, -1, 63), 4},
		{api.Score{Start: 0, Size: 65, Map: math.MaxUint64}, 4},
		{api.Score{Start: math.MinInt, Size: math.MinInt, Map: math.MaxUint64}, 4},
		{api.Score{Start: math.MaxInt, Size: math.MaxInt, Map: math.MaxUint64}, 4},
		{api.Score{Start: 0, Size: math.MaxInt}, 4},
		{api.Score{Start: 0, Size: math.MinInt}, 4},
		{api.Score{Start: math.MaxInt, Size: 4}, 4},
		{api.Score{Start: math.MinInt, Size: 4}, 4},
	} {
		wantCheck(t, c.s, c.want)
	}
}

func TestCheckOfAllStartsAndSizes(t *testing.T) {
	for _, start := range ints {
		for _, size := range ints {
			for _, m := range []uint64{0, 1, 2, 1 << 62, 1 << 63, math.MaxUint64} {
				s := api.Score{Start: start, Size: size, Map: m}
				wantCheck(t, s, checkOf(s))
			}
		}
	}
	for start := -5000; start <= 9000; start++ {
		for _, s := range []api.Score{board(start, 4), board(start, 4, 3), board(start, 4, 4), full(start, 64), board(start, 0), board(start, 65)} {
			wantCheck(t, s, checkOf(s))
		}
	}
}

func TestCheckOfEveryHighestBit(t *testing.T) {
	for size := -2; size <= 67; size++ {
		for i := range 64 {
			for _, m := range []uint64{1 << i, all(i + 1), 1<<i | 1, 1<<i | all(i)&0xaaaaaaaaaaaaaaaa} {
				s := api.Score{Start: 4090, Size: size, Map: m}
				wantCheck(t, s, checkOf(s))
			}
		}
	}
}

func TestCheckOfRandomMaps(t *testing.T) {
	r := rand.New(rand.NewSource(21))
	for range 50000 {
		s := api.Score{Start: r.Intn(numbers), Size: 1 + r.Intn(mostSize), Map: r.Uint64() >> r.Intn(65)}
		wantCheck(t, s, checkOf(s))
	}
}

// P21.5

func TestHasWrittenOut(t *testing.T) {
	s := board(10, 8, 0, 5)
	for seq := -10; seq <= 40; seq++ {
		wantHas(t, s, seq, seq == 10 || seq == 15)
	}
	wrapped := board(4094, 4, 0, 2, 3)
	for _, seq := range []int{4094, 0, 1} {
		wantHas(t, wrapped, seq, true)
	}
	// In the window, just beyond and before it, far away, and no numbers that are recorded ones modulo 4096.
	for _, seq := range []int{4095, 2, 3, 4093, 2045, 2046, 2047, -2, -1, 4096, 4097, 8190, -4096, -4095, math.MinInt, math.MinInt + 1, math.MaxInt, math.MaxInt - 1} {
		wantHas(t, wrapped, seq, false)
	}
	wantHas(t, board(0, 64, 63), 63, true)
	wantHas(t, board(0, 64, 63), 64, false)
	wantHas(t, full(0, 64), 0, true)
	wantHas(t, full(0, 64), 4095, false)
	wantHas(t, full(0, 64), -4096, false)
	wantHas(t, full(0, 64), 4096, false)
	wantHas(t, full(4095, 1), 4095, true)
	wantHas(t, full(4095, 1), 0, false)
	wantHas(t, full(4095, 1), 4094, false)
	wantHas(t, board(4095, 1), 4095, false)
}

func TestHasOfAllNumbers(t *testing.T) {
	for _, start := range starts {
		for _, size := range []int{1, 2, 3, 32, 63, 64} {
			for _, s := range boards(start, size) {
				m := modelOf(s)
				for seq := -70; seq < numbers+70; seq++ {
					wantHas(t, s, seq, m.has(seq))
				}
				for _, seq := range noNumbers {
					wantHas(t, s, seq, false)
				}
			}
		}
	}
}

func TestHasOfEverySize(t *testing.T) {
	for _, start := range starts {
		for size := 1; size <= mostSize; size++ {
			for _, s := range boards(start, size) {
				m := modelOf(s)
				for d := -70; d <= 140; d++ {
					wantHas(t, s, after(start, d), m.has(after(start, d)))
				}
			}
		}
	}
}

// P21.6

func TestReport(t *testing.T) {
	want := func(s api.Score, start int, m uint64) {
		t.Helper()
		if gotStart, got := Report(s); gotStart != start || got != m {
			t.Errorf("Report of %s gives %d and %d, want %d and %d", text(s), gotStart, got, start, m)
		}
	}
	want(board(10, 8, 0, 5), 10, 33)
	want(board(0, 1), 0, 0)
	want(board(0, 1, 0), 0, 1)
	want(board(4095, 64, 63), 4095, 1<<63)
	want(full(4095, 64), 4095, math.MaxUint64)
	want(full(4094, 63), 4094, math.MaxInt64)
	for _, start := range starts {
		for size := 1; size <= mostSize; size++ {
			for _, s := range boards(start, size) {
				want(s, start, s.Map)
			}
		}
	}
}

// R1: whatever the scoreboard and the number are, a call returns.
func TestNoCallPanics(t *testing.T) {
	for _, start := range ints {
		for _, size := range ints {
			for _, m := range []uint64{0, 1, 1 << 63, math.MaxUint64} {
				s := api.Score{Start: start, Size: size, Map: m}
				for _, seq := range ints {
					Note(s, seq)
					Move(s, seq)
					Has(s, seq)
				}
				Report(s)
			}
		}
	}
}

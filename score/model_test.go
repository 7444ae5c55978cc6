package score

import (
	"math"
	"strconv"
	"testing"

	"airtime/api"
)

// The limits as the documents state them, so that a changed constant of the program is noticed.
const (
	numbers  = 4096
	mostSize = 64
	// nearest is the least distance at which a number is before the window.
	nearest = 2048
)

// ints are ints at and beyond the limits of starts and sizes, and both ends of their range.
var ints = []int{math.MinInt, math.MinInt + 1, math.MinInt + 4096, math.MinInt32, -4097, -4096, -4095, -64, -2, -1, 0, 1, 2, 3, 10, 32, 62, 63, 64, 65, 66, 128,
	2047, 2048, 2049, 4032, 4094, 4095, 4096, 4097, 8191, 8192, 1<<32 + 1, math.MaxInt32 + 1, math.MaxInt - 4095, math.MaxInt - 1, math.MaxInt}

// noNumbers are ints that are no sequence numbers; several of them are one modulo 4096.
var noNumbers = []int{math.MinInt, math.MinInt + 1, math.MinInt32, -8192, -4097, -4096, -4095, -4094, -2, -1,
	4096, 4097, 4098, 8190, 8191, 8192, 1 << 32, 1<<32 + 1, math.MaxInt - 4095, math.MaxInt - 1, math.MaxInt}

// starts are starts of windows: at the wrap from 4095 to 0, around 2048, and others.
var starts = []int{0, 1, 100, 2046, 2047, 2048, 2049, 4032, 4033, 4092, 4094, 4095}

// isNumber reports whether n is a sequence number.
func isNumber(n int) bool {
	return 0 <= n && n <= 4095
}

// after returns the number that is n steps after seq; n may be negative.
func after(seq, n int) int {
	return ((seq+n)%numbers + numbers) % numbers
}

// steps are the steps forward from one sequence number to another one.
func steps(from, to int) int {
	if to < from {
		return to + numbers - from
	}
	return to - from
}

// model is a scoreboard as the set of the numbers that are recorded, which knows nothing of bits.
type model struct {
	start    int
	size     int
	recorded map[int]bool
}

// modelOf returns the model of a scoreboard.
func modelOf(s api.Score) *model {
	m := &model{start: s.Start, size: s.Size, recorded: map[int]bool{}}
	for i := range s.Size {
		if s.Map>>i%2 == 1 {
			m.recorded[after(s.Start, i)] = true
		}
	}
	return m
}

// score returns the scoreboard that m is the model of.
func (m *model) score() api.Score {
	s := api.Score{Start: m.start, Size: m.size}
	for n := range m.recorded {
		s.Map += 1 << steps(m.start, n)
	}
	return s
}

// inside reports whether n is in the window.
func (m *model) inside(n int) bool {
	return isNumber(n) && steps(m.start, n) < m.size
}

// beyond reports whether n is beyond the window.
func (m *model) beyond(n int) bool {
	return isNumber(n) && steps(m.start, n) >= m.size && steps(m.start, n) < nearest
}

// shift makes start the first number of the window: the numbers that are in the new window stay recorded.
func (m *model) shift(start int) {
	m.start = start
	for n := range m.recorded {
		if !m.inside(n) {
			delete(m.recorded, n)
		}
	}
}

// note is what the chapter says of Note.
func (m *model) note(seq int) {
	switch {
	case m.inside(seq):
		m.recorded[seq] = true
	case m.beyond(seq):
		m.shift(after(seq, 1-m.size))
		m.recorded[seq] = true
	}
}

// move is what the chapter says of Move.
func (m *model) move(start int) {
	if m.inside(start) || m.beyond(start) {
		m.shift(start)
	}
}

// has is what the chapter says of Has.
func (m *model) has(seq int) bool {
	return m.inside(seq) && m.recorded[seq]
}

// text describes a scoreboard with its map as a row of bits, the first one of the window first.
func text(s api.Score) string {
	var row []byte
	for i := range 64 {
		row = append(row, '0'+byte(s.Map>>i&1))
	}
	return "{Start " + strconv.Itoa(s.Start) + ", Size " + strconv.Itoa(s.Size) + ", bits " + string(row) + "}"
}

// board returns a scoreboard with these bits.
func board(start, size int, bits ...int) api.Score {
	s := api.Score{Start: start, Size: size}
	for _, i := range bits {
		s.Map |= 1 << i
	}
	return s
}

// all returns the map with the bits from 0 to n-1, for n from 0 to 64.
func all(n int) uint64 {
	m := uint64(0)
	for i := range n {
		m |= 1 << i
	}
	return m
}

// full returns the scoreboard in which all numbers of the window are recorded.
func full(start, size int) api.Score {
	return api.Score{Start: start, Size: size, Map: all(size)}
}

// boards are scoreboards of this start and size that are empty, that hold some bits and that hold all.
func boards(start, size int) []api.Score {
	const odd = 0xaaaaaaaaaaaaaaaa
	whole := full(start, size)
	l := []api.Score{board(start, size), whole, board(start, size, 0), board(start, size, size-1), board(start, size, 0, size/2, size-1)}
	for _, m := range []uint64{odd, ^uint64(odd), 0x9249249249249249, 0x00ff00ff00ff00ff, 0xff00000000ffffff} {
		l = append(l, api.Score{Start: start, Size: size, Map: m & whole.Map})
	}
	return l
}

// subsets are the scoreboards of this start and size with all sets of bits.
func subsets(start, size int) []api.Score {
	var l []api.Score
	for m := range uint64(1) << size {
		l = append(l, api.Score{Start: start, Size: size, Map: m})
	}
	return l
}

// wantCheck checks Check.
func wantCheck(t *testing.T, s api.Score, e api.Errno) {
	t.Helper()
	if got := Check(s); got != e {
		t.Errorf("Check of %s gives %d, want %d", text(s), got, e)
	}
}

// wantNote checks Note.
func wantNote(t *testing.T, s api.Score, seq int, want api.Score) {
	t.Helper()
	if got := Note(s, seq); got != want {
		t.Errorf("Note of %d in %s gives %s, want %s", seq, text(s), text(got), text(want))
	}
}

// wantMove checks Move.
func wantMove(t *testing.T, s api.Score, start int, want api.Score) {
	t.Helper()
	if got := Move(s, start); got != want {
		t.Errorf("Move of %s to %d gives %s, want %s", text(s), start, text(got), text(want))
	}
}

// wantHas checks Has.
func wantHas(t *testing.T, s api.Score, seq int, want bool) {
	t.Helper()
	if got := Has(s, seq); got != want {
		t.Errorf("Has of %d in %s gives %v, want %v", seq, text(s), got, want)
	}
}

// modelNote checks Note against the model, and that the result is valid. It returns the result.
func modelNote(t *testing.T, s api.Score, seq int) api.Score {
	t.Helper()
	m := modelOf(s)
	m.note(seq)
	wantNote(t, s, seq, m.score())
	n := Note(s, seq)
	wantCheck(t, n, 0)
	return n
}

// modelMove checks Move against the model, and that the result is valid. It returns the result.
func modelMove(t *testing.T, s api.Score, start int) api.Score {
	t.Helper()
	m := modelOf(s)
	m.move(start)
	wantMove(t, s, start, m.score())
	n := Move(s, start)
	wantCheck(t, n, 0)
	return n
}

// modelHas checks Has against the model.
func modelHas(t *testing.T, s api.Score, seq int) {
	t.Helper()
	wantHas(t, s, seq, modelOf(s).has(seq))
}

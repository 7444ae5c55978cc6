package retry

import (
	"math"
	"testing"
	"time"

	"airtime/api"
)

// greatest is the greatest exponent, and mostTriesOfAll the greatest number of tries, as the chapter states them.
const (
	greatest       = 15
	mostTriesOfAll = 255
)

// listed are the windows of the exponents 0 to 15.
var listed = [greatest + 1]int{0, 1, 3, 7, 15, 31, 63, 127, 255, 511, 1023, 2047, 4095, 8191, 16383, 32767}

// ints are the ends of int and numbers that are near to them, or that are in a range only if some of their bits are lost.
var ints = []int{math.MinInt, math.MinInt + 1, math.MinInt + 15, math.MinInt + 16, -1 << 62, -1<<62 - 1, -1 << 32, -1<<32 + 4, math.MinInt32,
	math.MinInt32 - 1, -1 << 16, -256, -255, -100, -16, -15, -2, 17, 63, 64, 65, 100, 254, 257, 260, 1 << 16, 1<<16 + 4, math.MaxInt32, math.MaxInt32 + 1,
	1 << 32, 1<<32 + 4, 1<<62 - 1, 1 << 62, math.MaxInt - 16, math.MaxInt - 15, math.MaxInt - 1, math.MaxInt}

// numbers are all ints from the first to the last one, and those of ints.
func numbers(first, last int) []int {
	var l []int
	for n := first; n <= last; n++ {
		l = append(l, n)
	}
	return append(l, ints...)
}

// exponentOf is what the chapter says of one exponent.
func exponentOf(n int) int {
	switch {
	case n < 0:
		return 0
	case n > greatest:
		return greatest
	}
	return n
}

// leastOf is what the chapter says of Least.
func leastOf(p api.Params) int {
	return listed[exponentOf(p.Min)]
}

// mostOf is what the chapter says of Most.
func mostOf(p api.Params) int {
	if exponentOf(p.Max) < exponentOf(p.Min) {
		return listed[exponentOf(p.Min)]
	}
	return listed[exponentOf(p.Max)]
}

// growOf is what the chapter says of Grow.
func growOf(window int, p api.Params) int {
	w := window
	if w < leastOf(p) {
		w = leastOf(p)
	}
	// Twice the greatest int and 1 fits in a uint64.
	if next := 2*uint64(w) + 1; next < uint64(mostOf(p)) {
		return int(next)
	}
	return mostOf(p)
}

// afterOf is what the chapter says of After; what Grow leaves as it is stays, however often Grow is applied.
func afterOf(failures int, p api.Params) int {
	w := leastOf(p)
	for ; failures > 0 && growOf(w, p) != w; failures-- {
		w = growOf(w, p)
	}
	return w
}

// pairs are parameters with every Min and Max from -1 to 16; what the other fields are differs from pair to pair.
func pairs() []api.Params {
	var l []api.Params
	for low := -1; low <= 16; low++ {
		for high := -1; high <= 16; high++ {
			l = append(l, api.Params{Aifsn: ints[len(l)%len(ints)], Min: low, Max: high, Txop: ints[len(l)%7]})
		}
	}
	return l
}

// farPairs are parameters with a Min or a Max, or both, at and near the ends of int and elsewhere outside the range.
func farPairs() []api.Params {
	var l []api.Params
	for _, far := range ints {
		for _, n := range numbers(-1, 16) {
			l = append(l, api.Params{Min: far, Max: n}, api.Params{Min: n, Max: far})
		}
	}
	return l
}

// otherFields are p and parameters with the same exponents, of which the other fields are different.
func otherFields(p api.Params) []api.Params {
	l := []api.Params{p}
	for _, n := range []int{math.MinInt, -1, 0, 1, 2, 4, 10, 15, 16, 100, math.MaxInt} {
		l = append(l, api.Params{Aifsn: n, Min: p.Min, Max: p.Max}, api.Params{Min: p.Min, Max: p.Max, Txop: n},
			api.Params{Aifsn: n, Min: p.Min, Max: p.Max, Txop: n})
	}
	return l
}

// windows are windows around those that matter for p: the ones below, at and above Least and Most, and half of each,
// and numbers up to both ends of int.
func windows(p api.Params) []int {
	l := numbers(-3, 40)
	for _, w := range []int{leastOf(p), leastOf(p) / 2, 2 * leastOf(p), mostOf(p), mostOf(p) / 2, mostOf(p) / 4, 2 * mostOf(p)} {
		for d := -3; d <= 3; d++ {
			l = append(l, w+d)
		}
	}
	return append(l, math.MaxInt/2, math.MaxInt/2+1, math.MaxInt/2+2, 1<<63-1<<14, math.MaxInt-32767)
}

// wantLimits checks the results of Least and Most.
func wantLimits(t *testing.T, p api.Params) {
	t.Helper()
	if got := Least(p); got != leastOf(p) {
		t.Errorf("the least window for %+v is %d, want %d", p, got, leastOf(p))
	}
	if got := Most(p); got != mostOf(p) {
		t.Errorf("the greatest window for %+v is %d, want %d", p, got, mostOf(p))
	}
}

// wantGrow checks the result of Grow.
func wantGrow(t *testing.T, window int, p api.Params, want int) {
	t.Helper()
	if got := Grow(window, p); got != want {
		t.Errorf("the window %d grows to %d for %+v, want %d", window, got, p, want)
	}
}

// wantAfter checks the result of After.
func wantAfter(t *testing.T, failures int, p api.Params, want int) {
	t.Helper()
	if got := After(failures, p); got != want {
		t.Errorf("the window after %d failures is %d for %+v, want %d", failures, got, p, want)
	}
}

// mustEndSoon ends the test if the calls that f makes do not end in some seconds; how fast they are is not measured.
func mustEndSoon(t *testing.T, f func()) {
	t.Helper()
	done := make(chan struct{})
	go func() {
		defer close(done)
		f()
	}()
	select {
	case <-done:
	case <-time.After(20 * time.Second):
		t.Fatal("the calls do not end")
	}
}

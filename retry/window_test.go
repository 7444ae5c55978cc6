package retry

import (
	"math"
	"slices"
	"testing"

	"airtime/api"
)

// P24.4

func TestGrowWithExamples(t *testing.T) {
	p, equal, zero, all := api.Params{Min: 4, Max: 10}, api.Params{Min: 4, Max: 2}, api.Params{}, api.Params{Min: -3, Max: 99}
	for _, c := range []struct {
		window int
		p      api.Params
		want   int
	}{
		{15, p, 31}, {0, p, 31}, {1000, p, 1023}, {5000, p, 1023},
		{-1, p, 31}, {math.MinInt, p, 31}, {14, p, 31}, {16, p, 33}, {20, p, 41}, {31, p, 63}, {510, p, 1021}, {511, p, 1023}, {512, p, 1023},
		{1022, p, 1023}, {1023, p, 1023}, {1024, p, 1023}, {math.MaxInt, p, 1023}, {math.MaxInt / 2, p, 1023}, {math.MaxInt/2 + 1, p, 1023},
		{0, equal, 15}, {14, equal, 15}, {15, equal, 15}, {16, equal, 15}, {math.MinInt, equal, 15}, {math.MaxInt, equal, 15},
		{0, zero, 0}, {-1, zero, 0}, {1, zero, 0}, {math.MinInt, zero, 0}, {math.MaxInt, zero, 0},
		{-1, all, 1}, {0, all, 1}, {1, all, 3}, {2, all, 5}, {16382, all, 32765}, {16383, all, 32767}, {16384, all, 32767}, {32768, all, 32767},
	} {
		wantGrow(t, c.window, c.p, c.want)
	}
}

func TestGrowOfEveryPair(t *testing.T) {
	for _, p := range append(pairs(), farPairs()...) {
		for _, w := range windows(p) {
			wantGrow(t, w, p, growOf(w, p))
		}
	}
}

func TestGrowOfEveryWindow(t *testing.T) {
	for _, p := range pairs() {
		for w := -3; w <= 33000; w++ {
			if got, want := Grow(w, p), growOf(w, p); got != want {
				t.Fatalf("the window %d grows to %d for %+v, want %d", w, got, p, want)
			}
		}
	}
}

// P24.5

func TestAfterWithExamples(t *testing.T) {
	p, equal, zero, all := api.Params{Min: 4, Max: 10}, api.Params{Min: 4, Max: 2}, api.Params{}, api.Params{Min: -3, Max: 99}
	for _, c := range []struct {
		failures int
		p        api.Params
		want     int
	}{
		{0, p, 15}, {3, p, 127}, {1000, p, 1023}, {-1, p, 15}, {-1000, p, 15}, {1, p, 31}, {5, p, 511}, {6, p, 1023}, {7, p, 1023}, {16, p, 1023},
		{0, equal, 15}, {1, equal, 15}, {16, equal, 15}, {-1, equal, 15}, {0, zero, 0}, {1, zero, 0}, {100, zero, 0}, {-5, zero, 0},
		{-1, all, 0}, {0, all, 0}, {1, all, 1}, {14, all, 16383}, {15, all, 32767}, {16, all, 32767}, {17, all, 32767}, {65, all, 32767},
	} {
		wantAfter(t, c.failures, c.p, c.want)
	}
}

func TestAfterOfEveryPair(t *testing.T) {
	for _, p := range append(pairs(), farPairs()...) {
		for n := -20; n <= 300; n++ {
			wantAfter(t, n, p, afterOf(n, p))
		}
	}
}

func TestAfterOfAnyNumberEndsSoon(t *testing.T) {
	mustEndSoon(t, func() {
		for _, p := range append(pairs(), farPairs()...) {
			for _, n := range ints {
				wantAfter(t, n, p, afterOf(n, p))
			}
		}
	})
}

// The other fields of the parameters do not matter.
func TestGrowAndAfterIgnoreOtherFields(t *testing.T) {
	for _, p := range pairs() {
		for _, q := range otherFields(p) {
			for _, n := range []int{-1, 0, 1, 2, 7, 15, 16, 100, 511, 5000, 32767, 40000} {
				wantGrow(t, n, q, growOf(n, p))
				wantAfter(t, n, q, afterOf(n, p))
			}
		}
	}
}

// P24.7

func TestWindowsHaveTheirForm(t *testing.T) {
	for _, p := range append(pairs(), farPairs()...) {
		found := []int{Least(p), Most(p)}
		for n := -3; n <= 40; n++ {
			found = append(found, After(n, p))
		}
		for _, w := range found {
			if !slices.Contains(listed[:], w) {
				t.Errorf("%d is a window of %+v, and not of the form 2^k - 1", w, p)
			}
		}
	}
}

func TestWindowsAreFromLeastToMost(t *testing.T) {
	for _, p := range append(pairs(), farPairs()...) {
		least, most := Least(p), Most(p)
		if least > most {
			t.Errorf("for %+v, the least window is %d, and the greatest one %d", p, least, most)
		}
		for _, w := range windows(p) {
			if got := Grow(w, p); got < least || got > most {
				t.Errorf("the window %d grows to %d for %+v, want one from %d to %d", w, got, p, least, most)
			}
		}
		for n := -20; n <= 100; n++ {
			if got := After(n, p); got < least || got > most {
				t.Errorf("the window after %d failures is %d for %+v, want one from %d to %d", n, got, p, least, most)
			}
		}
	}
}

// P24.8

func TestGrowIncreasesUpToMost(t *testing.T) {
	for _, p := range append(pairs(), farPairs()...) {
		for _, w := range windows(p) {
			switch got, most := Grow(w, p), Most(p); {
			case w == most && got != most:
				t.Errorf("the greatest window %d grows to %d for %+v", w, got, p)
			case w < most && got <= w:
				t.Errorf("the window %d grows to %d for %+v, and should become greater", w, got, p)
			}
		}
	}
}

func TestGrowKeepsTheOrder(t *testing.T) {
	for _, p := range append(pairs(), farPairs()...) {
		l := windows(p)
		slices.Sort(l)
		for i := 1; i < len(l); i++ {
			if v, w := Grow(l[i-1], p), Grow(l[i], p); v > w {
				t.Errorf("for %+v, the window %d grows to %d, and %d to %d", p, l[i-1], v, l[i], w)
			}
		}
	}
}

func TestGrowKeepsTheOrderOfAllWindows(t *testing.T) {
	for _, p := range pairs() {
		last := Grow(-3, p)
		for w := -2; w <= 33000; w++ {
			next := Grow(w, p)
			if next < last {
				t.Fatalf("for %+v, the window %d grows to %d, and the one before it to %d", p, w, next, last)
			}
			last = next
		}
	}
}

func TestAfterIsGrownStepByStep(t *testing.T) {
	for _, p := range append(pairs(), farPairs()...) {
		w := Least(p)
		for n := range 100 {
			wantAfter(t, n, p, w)
			w = Grow(w, p)
			wantAfter(t, n+1, p, Grow(After(n, p), p))
		}
		if got := After(16, p); got != Most(p) {
			t.Errorf("the window after 16 failures is %d for %+v, want %d", got, p, Most(p))
		}
	}
}

func TestAfterIsGrownStepByStepForGreatNumbers(t *testing.T) {
	mustEndSoon(t, func() {
		for _, p := range pairs() {
			for _, n := range []int{1 << 16, math.MaxInt32, 1 << 32, 1 << 62, math.MaxInt - 2, math.MaxInt - 1} {
				wantAfter(t, n+1, p, Grow(After(n, p), p))
			}
		}
	})
}

package retry

import (
	"math"
	"testing"

	"airtime/api"
)

// limits are numbers of tries that are in the range from 1 to 255, at its ends and beyond it.
var limits = []struct{ n, want int }{
	{math.MinInt, 1}, {math.MinInt + 1, 1}, {math.MinInt32, 1}, {-256, 1}, {-255, 1}, {-3, 1}, {-1, 1}, {0, 1},
	{1, 1}, {2, 2}, {3, 3}, {4, 4}, {7, 7}, {127, 127}, {128, 128}, {129, 129}, {253, 253}, {254, 254}, {255, 255},
	{256, 255}, {257, 255}, {300, 255}, {511, 255}, {512, 255}, {65536, 255}, {1 << 32, 255}, {1<<32 + 7, 255}, {math.MaxInt - 1, 255}, {math.MaxInt, 255},
}

// sides are octets and thresholds, and whether the octets are above the threshold.
var sides = []struct {
	octets, threshold int
	above             bool
}{
	{100, 500, false}, {499, 500, false}, {500, 500, false}, {501, 500, true}, {1000, 500, true},
	{-1, 0, false}, {0, 0, false}, {1, 0, true}, {-2, -1, false}, {-1, -1, false}, {0, -1, true}, {5, -5, true}, {-5, 5, false},
	{math.MinInt, math.MinInt, false}, {math.MinInt + 1, math.MinInt, true}, {-1, math.MinInt, true}, {0, math.MinInt, true}, {1, math.MinInt, true},
	{math.MaxInt, math.MinInt, true}, {math.MinInt, math.MinInt + 1, false}, {math.MinInt, -1, false}, {math.MinInt, 0, false}, {math.MinInt, 1, false},
	{math.MinInt, math.MaxInt, false}, {math.MaxInt - 1, math.MaxInt, false}, {math.MaxInt, math.MaxInt, false}, {math.MaxInt, math.MaxInt - 1, true},
	{0, math.MaxInt, false}, {-1, math.MaxInt, false}, {math.MaxInt, 0, true}, {math.MaxInt, -1, true}, {1 << 32, 0, true}, {0, 1 << 32, false},
}

// wantLimit checks the result of Limit.
func wantLimit(t *testing.T, octets, threshold, short, long, want int) {
	t.Helper()
	if got := Limit(octets, threshold, short, long); got != want {
		t.Errorf("a frame of %d octets has %d tries with the threshold %d and the limits %d and %d, want %d", octets, got, threshold, short, long, want)
	}
}

// P24.1

func TestLimitWithExamples(t *testing.T) {
	wantLimit(t, 100, 500, 7, 4, 7)
	wantLimit(t, 501, 500, 7, 4, 4)
	wantLimit(t, 0, 0, -3, 4, 1)
}

func TestLimitIsInRangeOnBothSides(t *testing.T) {
	for _, s := range sides {
		for _, short := range limits {
			for _, long := range limits {
				want := short.want
				if s.above {
					want = long.want
				}
				wantLimit(t, s.octets, s.threshold, short.n, long.n, want)
			}
		}
	}
}

func TestLimitOfEveryNumberOfTries(t *testing.T) {
	for n := 1; n <= mostTriesOfAll; n++ {
		wantLimit(t, 500, 500, n, mostTriesOfAll+1-n, n)
		wantLimit(t, 501, 500, mostTriesOfAll+1-n, n, n)
	}
}

func TestLimitAroundTheThreshold(t *testing.T) {
	for octets := -40; octets <= 40; octets++ {
		for threshold := -40; threshold <= 40; threshold++ {
			want := 4
			if octets <= threshold {
				want = 7
			}
			wantLimit(t, octets, threshold, 7, 4, want)
		}
	}
}

// P24.2 and P24.3

func TestLeastAndMostWithExamples(t *testing.T) {
	for _, c := range []struct{ low, high, least, most int }{
		{4, 10, 15, 1023}, {4, 2, 15, 15}, {4, 4, 15, 15}, {0, 0, 0, 0}, {0, 15, 0, 32767}, {15, 15, 32767, 32767}, {15, 0, 32767, 32767},
		{-1, 16, 0, 32767}, {16, -1, 32767, 32767}, {-1, -1, 0, 0}, {16, 16, 32767, 32767}, {1, 3, 1, 7},
		{math.MinInt, math.MaxInt, 0, 32767}, {math.MaxInt, math.MinInt, 32767, 32767}, {math.MinInt, 4, 0, 15}, {4, math.MinInt, 15, 15},
	} {
		p := api.Params{Min: c.low, Max: c.high}
		if got := Least(p); got != c.least {
			t.Errorf("the least window for Min %d and Max %d is %d, want %d", c.low, c.high, got, c.least)
		}
		if got := Most(p); got != c.most {
			t.Errorf("the greatest window for Min %d and Max %d is %d, want %d", c.low, c.high, got, c.most)
		}
	}
}

func TestLeastAndMostOfEveryPair(t *testing.T) {
	for _, p := range append(pairs(), farPairs()...) {
		wantLimits(t, p)
	}
}

func TestLeastAndMostIgnoreOtherFields(t *testing.T) {
	for _, p := range pairs() {
		for _, q := range otherFields(p) {
			wantLimits(t, q)
		}
	}
}

func TestLeastIgnoresMax(t *testing.T) {
	for _, low := range numbers(-1, 16) {
		for _, high := range numbers(-1, 16) {
			if got, want := Least(api.Params{Min: low, Max: high}), Least(api.Params{Min: low}); got != want {
				t.Errorf("the least window for Min %d and Max %d is %d, and %d for Max 0", low, high, got, want)
			}
		}
	}
}

// P24.6

func TestSpentWithExamples(t *testing.T) {
	for _, c := range []struct {
		tries, limit int
		want         bool
	}{
		{7, 7, true}, {6, 7, false}, {8, 7, true}, {0, 1, false}, {1, 1, true}, {0, 0, true}, {0, -1, true}, {-1, 0, false}, {254, 255, false}, {255, 255, true},
		{math.MinInt, math.MinInt, true}, {math.MinInt, math.MinInt + 1, false}, {math.MinInt + 1, math.MinInt, true}, {math.MinInt, 0, false}, {0, math.MinInt, true},
		{math.MaxInt, math.MaxInt, true}, {math.MaxInt - 1, math.MaxInt, false}, {math.MaxInt, math.MaxInt - 1, true}, {0, math.MaxInt, false}, {math.MaxInt, 0, true},
		{-1, math.MaxInt, false}, {math.MaxInt, -1, true}, {math.MinInt, 1, false}, {1, math.MinInt, true}, {math.MinInt, math.MaxInt, false}, {math.MaxInt, math.MinInt, true},
	} {
		if got := Spent(c.tries, c.limit); got != c.want {
			t.Errorf("that a frame is given up after %d tries of %d is %v", c.tries, c.limit, got)
		}
	}
}

func TestSpentFromTheLimitOn(t *testing.T) {
	for _, limit := range numbers(-20, 300) {
		for d := range 20 {
			if below := limit - 1 - d; below < limit && Spent(below, limit) {
				t.Errorf("a frame is given up after %d tries of %d", below, limit)
			}
			if above := limit + d; above >= limit && !Spent(above, limit) {
				t.Errorf("a frame is not given up after %d tries of %d", above, limit)
			}
		}
	}
}

// P24.1 and P24.6: a frame has as many tries as Limit says, and at least one.
func TestTriesUntilSpent(t *testing.T) {
	for _, short := range limits {
		tries := 0
		for limit := Limit(100, 500, short.n, 4); !Spent(tries, limit); {
			if tries++; tries > mostTriesOfAll {
				break
			}
		}
		if want := short.want; tries != want {
			t.Errorf("a frame with the limit %d is tried %d times, want %d", short.n, tries, want)
		}
	}
}

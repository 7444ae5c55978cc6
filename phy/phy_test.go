package phy

import (
	"math"
	"math/bits"
	"testing"

	"airtime/api"
)

// rateCount is the number of the rates that the chapter lists.
const rateCount = 8

// listed are the data bits and the levels of the rates 0 to 7, as the chapter lists them.
var listed = [rateCount]struct{ bits, level int }{
	{24, 5}, {36, 6}, {48, 7}, {72, 9}, {96, 12}, {144, 16}, {192, 20}, {216, 21},
}

// noRates are ints that are no rates: those beside the rates, the ends of int, and others, also ones that are rates modulo 2^8, 2^16 or 2^32.
var noRates = []int{-1, -2, -3, -7, -8, -9, 8, 9, 10, 15, 16, 63, 64, 100, 101, 255, 256, 257, 263, -256, 1 << 16, 1<<16 + 1,
	math.MinInt32, math.MaxInt32, 1 << 32, 1<<32 + 1, 1<<32 + 7, -1 << 32, math.MinInt, math.MinInt + 1, math.MaxInt - 1, math.MaxInt}

// noLengths are ints that are no lengths of frames; in some of them, eight times the int wraps around to a length.
var noLengths = []int{-1, -2, -8, -100, -8192, -8193, 8193, 8194, 8200, 16384, 1 << 16, 1<<16 + 14, math.MinInt32, math.MaxInt32,
	1 << 32, 1<<32 + 14, 1 << 61, 1<<61 + 14, -1 << 61, -1<<61 + 14, math.MinInt + 14, math.MinInt, math.MinInt + 1, math.MaxInt - 1, math.MaxInt}

// durations are the durations of the frames of 0 to MaxTrain octets, found by counting: slots are added until all bits have been transmitted.
func durations(rate int) []int {
	var l []int
	slots, room := 2, 0
	for octets := 0; octets <= 8192; octets++ {
		for room < 8*octets {
			slots++
			room += listed[rate].bits
		}
		l = append(l, slots)
	}
	return l
}

// fitting returns the greatest length whose duration, of those in l, is at most slots, or -1.
func fitting(l []int, slots int) int {
	longest := -1
	for octets, n := range l {
		if n <= slots {
			longest = octets
		}
	}
	return longest
}

// wantSlots checks the result of Slots for a valid rate and length.
func wantSlots(t *testing.T, rate, octets, want int) {
	t.Helper()
	if got, e := Slots(rate, octets); got != want || e != api.OK {
		t.Errorf("at rate %d, the duration of %d octets is %d with error %d, want %d", rate, octets, got, e, want)
	}
}

// wantFits checks the result of Fits.
func wantFits(t *testing.T, rate, slots, want int) {
	t.Helper()
	if got := Fits(rate, slots); got != want {
		t.Errorf("at rate %d, %d octets fit into %d slots, want %d", rate, got, slots, want)
	}
}

// P8.1

func TestBitsAndNeedOfEveryRate(t *testing.T) {
	for rate, want := range listed {
		if got := Bits(rate); got != want.bits {
			t.Errorf("rate %d transmits %d bits in a slot, want %d", rate, got, want.bits)
		}
		if got := Need(rate); got != want.level {
			t.Errorf("rate %d needs the level %d, want %d", rate, got, want.level)
		}
	}
}

func TestBitsAndNeedOfNoRate(t *testing.T) {
	for _, rate := range noRates {
		if got := Bits(rate); got != 0 {
			t.Errorf("rate %d transmits %d bits in a slot, want 0", rate, got)
		}
		if got := Need(rate); got != 101 {
			t.Errorf("rate %d needs the level %d, want 101", rate, got)
		}
	}
}

func TestRatesAreThoseBelowMaxRates(t *testing.T) {
	if api.MaxRates != rateCount {
		t.Fatalf("there are %d rates, want %d", api.MaxRates, rateCount)
	}
	for rate := -300; rate <= 300; rate++ {
		isRate := 0 <= rate && rate < api.MaxRates
		_, e := Slots(rate, 0)
		if got := Bits(rate) > 0; got != isRate {
			t.Errorf("that rate %d transmits bits is %v", rate, got)
		}
		if got := Need(rate) <= api.MaxLevel; got != isRate {
			t.Errorf("that a level suffices for rate %d is %v", rate, got)
		}
		if got := e == api.OK; got != isRate {
			t.Errorf("that a frame has a duration at rate %d is %v", rate, got)
		}
		if got := Fits(rate, 2) == 0; got != isRate {
			t.Errorf("that a frame without octets fits into its duration at rate %d is %v", rate, got)
		}
		if got := Basic(rate) >= 0; got != isRate {
			t.Errorf("that there is a basic rate for rate %d is %v", rate, got)
		}
	}
}

// P8.2

func TestSlotsWithExamples(t *testing.T) {
	for _, c := range []struct{ rate, octets, want int }{
		{0, 14, 7},
		{0, 0, 2}, {0, 1, 3}, {0, 3, 3}, {0, 4, 4}, {0, 15, 7}, {0, 16, 8}, {0, 8192, 2733},
		{1, 0, 2}, {1, 4, 3}, {1, 5, 4}, {1, 9, 4}, {1, 10, 5}, {1, 8192, 1823},
		{2, 0, 2}, {2, 6, 3}, {2, 7, 4}, {2, 8192, 1368},
		{3, 9, 3}, {3, 10, 4}, {3, 100, 14}, {3, 8192, 913},
		{4, 12, 3}, {4, 13, 4}, {4, 8192, 685},
		{5, 18, 3}, {5, 19, 4}, {5, 8192, 458},
		{6, 24, 3}, {6, 25, 4}, {6, 8184, 343}, {6, 8185, 344}, {6, 8192, 344},
		{7, 0, 2}, {7, 1, 3}, {7, 27, 3}, {7, 28, 4}, {7, 8181, 305}, {7, 8182, 306}, {7, 8192, 306},
	} {
		wantSlots(t, c.rate, c.octets, c.want)
	}
}

func TestSlotsOfEveryRateAndLength(t *testing.T) {
	for rate := range rateCount {
		for octets, want := range durations(rate) {
			wantSlots(t, rate, octets, want)
		}
	}
}

func TestSlotsWhereAFrameNeedsOneSlotMore(t *testing.T) {
	for rate, r := range listed {
		// After whole slots of data, one octet more needs one slot more; a slot of rate 1 may end within an octet.
		for slots := 1; slots*r.bits/8 < api.MaxTrain; slots++ {
			octets := slots * r.bits / 8
			wantSlots(t, rate, octets-1, api.Preamble+slots)
			wantSlots(t, rate, octets, api.Preamble+slots)
			wantSlots(t, rate, octets+1, api.Preamble+slots+1)
		}
	}
}

func TestSlotsOfInvalidArguments(t *testing.T) {
	// invalid checks one pair of which at least one number is out of its range.
	invalid := func(rate, octets int) {
		if n, e := Slots(rate, octets); n != 0 || e != api.ErrRange {
			t.Errorf("at rate %d, the duration of %d octets is %d with error %d", rate, octets, n, e)
		}
	}
	for _, octets := range noLengths {
		for rate := range rateCount {
			invalid(rate, octets)
		}
		for _, rate := range noRates {
			invalid(rate, octets)
		}
	}
	for _, rate := range noRates {
		for octets := range api.MaxTrain + 1 {
			invalid(rate, octets)
		}
	}
}

// P8.3

func TestFitsWithExamples(t *testing.T) {
	for _, c := range []struct{ rate, slots, want int }{
		{0, 7, 15},
		{0, 2, 0}, {0, 3, 3}, {0, 4, 6}, {0, 2732, 8190}, {0, 2733, 8192}, {0, 2734, 8192},
		{1, 2, 0}, {1, 3, 4}, {1, 4, 9}, {1, 5, 13}, {1, 1822, 8190}, {1, 1823, 8192},
		{2, 3, 6}, {2, 1367, 8190}, {2, 1368, 8192},
		{3, 3, 9}, {3, 14, 108}, {3, 912, 8190}, {3, 913, 8192},
		{4, 3, 12}, {4, 684, 8184}, {4, 685, 8192},
		{5, 3, 18}, {5, 457, 8190}, {5, 458, 8192},
		{6, 3, 24}, {6, 343, 8184}, {6, 344, 8192},
		{7, 2, 0}, {7, 3, 27}, {7, 305, 8181}, {7, 306, 8192}, {7, 307, 8192},
	} {
		wantFits(t, c.rate, c.slots, c.want)
	}
}

func TestFitsOfEveryRate(t *testing.T) {
	for rate := range rateCount {
		l := durations(rate)
		for slots := -3; slots <= l[api.MaxTrain]+3; slots++ {
			wantFits(t, rate, slots, fitting(l, slots))
		}
	}
}

func TestFitsOfFewerSlotsThanThePreamble(t *testing.T) {
	for rate := range rateCount {
		for _, slots := range []int{1, 0, -1, -2, -3, -7, -1000, math.MinInt32, -1 << 32, -1<<32 + 7, -1 << 61, -1<<61 + 9, math.MinInt + 1, math.MinInt} {
			wantFits(t, rate, slots, -1)
		}
		wantFits(t, rate, api.Preamble, 0)
	}
}

func TestFitsOfManySlots(t *testing.T) {
	many := []int{2733, 8191, 8192, 8193, 8194, 8195, 10000, api.MaxWait, api.MaxSlot, math.MaxInt32, 1 << 32, 1<<32 + 2, 1 << 40, math.MaxInt - 1, math.MaxInt}
	for i := 12; i < 63; i++ {
		many = append(many, 1<<i-1, 1<<i, 1<<i+1, 1<<i+2, 1<<i+3)
	}
	for rate, r := range listed {
		for _, slots := range many {
			wantFits(t, rate, slots, api.MaxTrain)
		}
		// The bits of this many slots of data are just above a multiple of 2^64, which wraps around to a small number.
		for wraps := 1; wraps < r.bits/2; wraps++ {
			slots, _ := bits.Div64(uint64(wraps), 0, uint64(r.bits))
			wantFits(t, rate, api.Preamble+int(slots)+1, api.MaxTrain)
		}
	}
}

func TestFitsOfNoRate(t *testing.T) {
	for _, rate := range noRates {
		for slots := -3; slots <= 3000; slots++ {
			wantFits(t, rate, slots, -1)
		}
		for _, slots := range []int{math.MinInt, math.MinInt + 1, 8194, api.MaxSlot, math.MaxInt - 1, math.MaxInt} {
			wantFits(t, rate, slots, -1)
		}
	}
}

// P8.4

func TestBasicOfEveryRate(t *testing.T) {
	for rate, want := range [rateCount]int{0, 0, 2, 2, 4, 4, 4, 4} {
		if got := Basic(rate); got != want {
			t.Errorf("the basic rate for rate %d is %d, want %d", rate, got, want)
		}
	}
}

func TestBasicOfNoRate(t *testing.T) {
	for _, rate := range noRates {
		if got := Basic(rate); got != -1 {
			t.Errorf("the basic rate for rate %d is %d, want -1", rate, got)
		}
	}
}

// P8.5

func TestBestAroundEachLevelThatARateNeeds(t *testing.T) {
	for _, c := range []struct{ level, want int }{
		{8, 2},
		{-1, -1}, {0, -1}, {1, -1}, {4, -1}, {5, 0}, {6, 1}, {7, 2}, {9, 3}, {10, 3}, {11, 3}, {12, 4}, {13, 4},
		{15, 4}, {16, 5}, {17, 5}, {19, 5}, {20, 6}, {21, 7}, {22, 7}, {99, 7},
		{api.MaxLevel, 7}, {api.MaxLevel + 1, 7}, {255, 7}, {256, 7}, {1 << 32, 7}, {1<<32 + 6, 7}, {math.MaxInt - 1, 7}, {math.MaxInt, 7},
		{-5, -1}, {-21, -1}, {-100, -1}, {-256 + 9, -1}, {-1 << 32, -1}, {-1<<32 + 9, -1}, {math.MinInt, -1}, {math.MinInt + 1, -1},
	} {
		if got := Best(c.level); got != c.want {
			t.Errorf("the best rate for level %d is %d, want %d", c.level, got, c.want)
		}
	}
}

func TestBestOfEveryLevel(t *testing.T) {
	for level := -300; level <= 300; level++ {
		want := -1
		for rate, r := range listed {
			if r.level <= level {
				want = rate
			}
		}
		if got := Best(level); got != want {
			t.Errorf("the best rate for level %d is %d, want %d", level, got, want)
		}
	}
}

func TestBestAgreesWithNeed(t *testing.T) {
	for level := -2; level <= api.MaxLevel; level++ {
		best := Best(level)
		if best >= 0 && Need(best) > level {
			t.Errorf("the best rate for level %d is %d, which needs the level %d", level, best, Need(best))
		}
		// For the last rate, the next one is none and needs more than any level.
		if Need(best+1) <= level {
			t.Errorf("the best rate for level %d is %d, but the next rate needs the level %d", level, best, Need(best+1))
		}
	}
}

// P8.6

func TestWhatFitsLastsAtMostThatLongAndOneOctetMoreDoesNot(t *testing.T) {
	for rate := range rateCount {
		for slots := api.Preamble; slots <= 3000; slots++ {
			octets := Fits(rate, slots)
			if n, e := Slots(rate, octets); n > slots || e != api.OK {
				t.Errorf("at rate %d, %d octets fit into %d slots, but last %d slots with error %d", rate, octets, slots, n, e)
			}
			if octets == api.MaxTrain {
				continue
			}
			if n, e := Slots(rate, octets+1); n <= slots || e != api.OK {
				t.Errorf("at rate %d, %d octets fit into %d slots, but one octet more lasts %d slots with error %d", rate, octets, slots, n, e)
			}
		}
	}
}

func TestEveryFrameFitsIntoItsDuration(t *testing.T) {
	for rate := range rateCount {
		for octets := range api.MaxTrain + 1 {
			n, _ := Slots(rate, octets)
			if got := Fits(rate, n); got < octets {
				t.Errorf("at rate %d, %d octets last %d slots, but %d octets fit into them", rate, octets, n, got)
			}
			if got := Fits(rate, n-1); got >= octets {
				t.Errorf("at rate %d, %d octets last %d slots, but %d octets fit into one slot less", rate, octets, n, got)
			}
		}
	}
}

// P8.7

func TestALongerFrameHasNoShorterDuration(t *testing.T) {
	for rate := range rateCount {
		before := 0
		for octets := range api.MaxTrain + 1 {
			n, e := Slots(rate, octets)
			if n < before || e != api.OK {
				t.Errorf("at rate %d, %d octets last %d slots with error %d, one octet less %d slots", rate, octets, n, e, before)
			}
			before = n
		}
	}
}

func TestAGreaterRateHasNoLongerDuration(t *testing.T) {
	for octets := range api.MaxTrain + 1 {
		before := math.MaxInt
		for rate := range rateCount {
			n, e := Slots(rate, octets)
			if n > before || e != api.OK {
				t.Errorf("%d octets last %d slots at rate %d with error %d, and %d slots at the rate before", octets, n, rate, e, before)
			}
			before = n
		}
	}
}

func TestAGreaterRateNeedsNoLowerLevel(t *testing.T) {
	for rate := 1; rate < rateCount; rate++ {
		if Need(rate) < Need(rate-1) {
			t.Errorf("rate %d needs the level %d, the rate before %d", rate, Need(rate), Need(rate-1))
		}
	}
}

// R1

func TestEveryCallReturns(t *testing.T) {
	extreme := []int{math.MinInt, math.MinInt + 1, math.MinInt32, -1, 0, 1, 2, 7, 8, 8192, 8193, math.MaxInt32, math.MaxInt - 1, math.MaxInt}
	for _, a := range extreme {
		Bits(a)
		Need(a)
		Basic(a)
		Best(a)
		for _, b := range extreme {
			Slots(a, b)
			Fits(a, b)
		}
	}
}

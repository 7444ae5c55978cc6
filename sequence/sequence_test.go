package sequence

import (
	"math"
	"math/big"
	"math/rand"
	"slices"
	"testing"
)

// modulus is the number of sequence numbers.
const modulus = 4096

// ints are the ends of the range of int, the neighbours of multiples of 2048, and others; it is the same list in every run.
func ints() []int {
	r := rand.New(rand.NewSource(1))
	l := []int{math.MinInt, math.MinInt + 1, math.MinInt + 4095, math.MinInt + 4096, math.MinInt + 4097,
		math.MaxInt, math.MaxInt - 1, math.MaxInt - 4095, math.MaxInt - 4096, math.MaxInt - 4097,
		math.MinInt32, math.MinInt32 - 1, math.MaxInt32, math.MaxInt32 + 1, 11, 100, 4090, -11, -100, -4090}
	for i := -6; i <= 6; i++ {
		l = append(l, 2048*i-1, 2048*i, 2048*i+1)
	}
	for i := 13; i < 63; i += 7 {
		l = append(l, 1<<i, 1<<i-1, -1<<i, -1<<i-1)
	}
	for range 60 {
		n := r.Intn(1<<r.Intn(62) + 1)
		l = append(l, n, -n)
	}
	return l
}

// sizes are sizes of windows at and beyond the limits that the chapter names, and others.
var sizes = []int{math.MinInt, math.MinInt + 1, -4097, -4096, -4095, -2, -1, 0, 1, 2, 3, 4, 63, 64, 65, 1000, 2047, 2048, 2049,
	4094, 4095, 4096, 4097, 4098, 8191, 8192, 8193, math.MaxInt32, math.MaxInt - 1, math.MaxInt}

// starts are numbers at which windows start: sequence numbers, at the end of their range and before it, and other ints.
var starts = []int{0, 1, 2, 9, 2047, 2048, 2049, 4000, 4090, 4093, 4094, 4095,
	4096, 4097, 8191, 8192, -1, -2, -4095, -4096, -4097, math.MinInt, math.MinInt + 1, math.MaxInt, math.MaxInt - 1}

// modulo returns n modulo 4096, computed with numbers that have no limits.
func modulo(n *big.Int) int {
	// Mod is Euclidean: its result is not negative.
	return int(new(big.Int).Mod(n, big.NewInt(modulus)).Int64())
}

// sum returns a+b modulo 4096.
func sum(a, b int) int {
	return modulo(new(big.Int).Add(big.NewInt(int64(a)), big.NewInt(int64(b))))
}

// difference returns a-b modulo 4096.
func difference(a, b int) int {
	return modulo(new(big.Int).Sub(big.NewInt(int64(a)), big.NewInt(int64(b))))
}

// window are the numbers of the window of size numbers from start on, found by counting.
func window(start, size int) []int {
	var l []int
	n := modulo(big.NewInt(int64(start)))
	for len(l) < size && len(l) < modulus {
		l = append(l, n)
		n++
		if n == modulus {
			n = 0
		}
	}
	return l
}

// example is a call with two arguments and its result.
type example struct{ a, b, want int }

// compare calls f, a function with the given name, for the examples, and for all pairs of ints, for which expected returns the results.
func compare(t *testing.T, name string, f func(a, b int) int, examples []example, expected func(a, b int) int) {
	t.Helper()
	l := examples
	for _, a := range ints() {
		for _, b := range ints() {
			l = append(l, example{a, b, expected(a, b)})
		}
	}
	for _, c := range l {
		if got := f(c.a, c.b); got != c.want {
			t.Errorf("%s(%d, %d) is %d, want %d", name, c.a, c.b, got, c.want)
		}
	}
}

// P6.1

func TestValidAcceptsTheSequenceNumbers(t *testing.T) {
	for n := range modulus {
		if !Valid(n) {
			t.Errorf("Valid(%d) is false", n)
		}
	}
}

func TestValidRefusesAllOthers(t *testing.T) {
	for _, n := range []int{-1, -2, -4095, -4096, -4097, 4096, 4097, 8191, 8192,
		1 << 16, 1<<32 + 1, 1 << 62, -1 << 32, math.MinInt, math.MinInt + 1, math.MaxInt, math.MaxInt - 1} {
		if Valid(n) {
			t.Errorf("Valid(%d) is true", n)
		}
	}
	for n := -3 * modulus; n < 4*modulus; n++ {
		if (n < 0 || n > 4095) && Valid(n) {
			t.Errorf("Valid(%d) is true", n)
		}
	}
}

// P6.2

func TestAddIsTheSumModulo4096(t *testing.T) {
	compare(t, "Add", Add, []example{
		{4095, 1, 0}, {0, -1, 4095}, {0, 0, 0}, {1, 2, 3}, {4095, 0, 4095}, {4096, 0, 0}, {4095, 4095, 4094},
		{2048, 2048, 0}, {0, 4096, 0}, {5, -4096, 5}, {-1, 0, 4095}, {-4096, 0, 0}, {-4097, 0, 4095}, {-3, -5, 4088}, {10, -20, 4086},
		{math.MaxInt, 0, 4095}, {math.MaxInt, 1, 0}, {math.MaxInt, math.MaxInt, 4094}, {0, math.MaxInt, 4095},
		{math.MinInt, 0, 0}, {math.MinInt, -1, 4095}, {math.MinInt, math.MinInt, 0}, {-1, math.MinInt, 4095},
		{math.MinInt, math.MaxInt, 4095}, {math.MaxInt, math.MinInt, 4095},
	}, sum)
}

// P6.3

func TestDistanceIsTheDifferenceModulo4096(t *testing.T) {
	compare(t, "Distance", Distance, []example{
		{4090, 5, 11}, {5, 4090, 4085}, {0, 0, 0}, {4095, 4095, 0}, {0, 1, 1}, {1, 0, 4095}, {4095, 0, 1}, {0, 4095, 4095},
		{0, 2047, 2047}, {0, 2048, 2048}, {2048, 0, 2048}, {2049, 0, 2047}, {2047, 0, 2049},
		{0, 4096, 0}, {4096, 0, 0}, {0, 4097, 1}, {-1, 0, 1}, {0, -1, 4095}, {-4096, 4096, 0}, {-1, -2, 4095}, {-2, -1, 1},
		{math.MinInt, math.MaxInt, 4095}, {math.MaxInt, math.MinInt, 1}, {math.MinInt, math.MinInt, 0}, {math.MaxInt, math.MaxInt, 0},
		{math.MinInt, 0, 0}, {0, math.MinInt, 0}, {1, math.MinInt, 4095}, {math.MinInt, 1, 1},
		{math.MaxInt, 0, 1}, {0, math.MaxInt, 4095}, {math.MaxInt, -1, 0}, {-1, math.MaxInt, 0},
	}, func(from, to int) int { return difference(to, from) })
}

func TestDistanceIsTheNumberOfStepsForward(t *testing.T) {
	for _, from := range []int{0, 1, 2047, 2048, 4090, 4095} {
		for steps, to := range window(from, modulus) {
			if got := Distance(from, to); got != steps {
				t.Errorf("Distance(%d, %d) is %d, want %d", from, to, got, steps)
			}
		}
	}
}

// P6.4

func TestBeforeWithExamples(t *testing.T) {
	for _, c := range []struct {
		a, b int
		want bool
	}{
		{4095, 0, true}, {0, 2048, false}, {2048, 0, false}, {0, 0, false}, {4095, 4095, false}, {0, 1, true}, {1, 0, false}, {0, 4095, false},
		{0, 2046, true}, {0, 2047, true}, {0, 2049, false}, {2047, 0, false}, {2049, 0, true}, {2050, 0, true},
		{3000, 951, true}, {3000, 952, false}, {3000, 953, false}, {951, 3000, false}, {953, 3000, true},
		{4096, 0, false}, {4096, 1, true}, {-1, 0, true}, {0, -1, false}, {-2, -1, true}, {-4096, 2047, true}, {-4096, 2048, false},
		{math.MaxInt, math.MinInt, true}, {math.MinInt, math.MaxInt, false}, {math.MinInt, math.MinInt, false}, {math.MaxInt, math.MaxInt, false},
		{math.MinInt, 2047, true}, {math.MinInt, 2048, false}, {math.MaxInt, 2046, true}, {math.MaxInt, 2047, false}, {2048, math.MaxInt, true}, {2047, math.MaxInt, false},
	} {
		if got := Before(c.a, c.b); got != c.want {
			t.Errorf("Before(%d, %d) is %v", c.a, c.b, got)
		}
	}
}

func TestBeforeIsADistanceFrom1To2047(t *testing.T) {
	for _, a := range ints() {
		for _, b := range ints() {
			d := difference(b, a)
			if got, want := Before(a, b), d >= 1 && d <= 2047; got != want {
				t.Errorf("Before(%d, %d) is %v at a distance of %d", a, b, got, d)
			}
		}
	}
}

// P6.5

func TestInWithExamples(t *testing.T) {
	for _, c := range []struct {
		start, size, n int
		want           bool
	}{
		{4094, 4, 1, true}, {4094, 4, 2, false}, {4094, 4, 4094, true}, {4094, 4, 4095, true}, {4094, 4, 0, true}, {4094, 4, 4093, false},
		{0, 4096, 4096, false}, {0, 4096, 4095, true}, {0, 4096, 0, true}, {0, 4096, -1, false}, {0, 4095, 4095, false}, {0, 4095, 4094, true},
		{5, 4095, 4, false}, {5, 4096, 4, true}, {5, 4097, 4, true}, {5, math.MaxInt, 4, true}, {5, math.MaxInt, 4096, false},
		{7, 0, 7, false}, {7, 1, 7, true}, {7, 1, 8, false}, {7, 1, 6, false}, {7, -1, 7, false}, {7, -4096, 7, false}, {7, math.MinInt, 7, false},
		{0, 1, 4096, false}, {0, 1, -4096, false}, {4096, 1, 0, true}, {4096, 1, 4096, false}, {-1, 2, 4095, true}, {-1, 2, 0, true}, {-1, 2, 1, false}, {-1, 2, -1, false},
		{math.MaxInt, 2, 4095, true}, {math.MaxInt, 2, 0, true}, {math.MaxInt, 2, 1, false}, {math.MaxInt, 2, math.MaxInt, false},
		{math.MinInt, 2, 1, true}, {math.MinInt, 2, 2, false}, {math.MinInt, 2, math.MinInt, false}, {math.MinInt, math.MaxInt, 4095, true},
	} {
		if got := In(c.start, c.size, c.n); got != c.want {
			t.Errorf("In(%d, %d, %d) is %v", c.start, c.size, c.n, got)
		}
	}
}

func TestInComparesTheDistanceWithTheSize(t *testing.T) {
	for _, start := range starts {
		for _, size := range sizes {
			limit := max(min(size, 4096), 0)
			for _, n := range ints() {
				want := n >= 0 && n <= 4095 && difference(n, start) < limit
				if got := In(start, size, n); got != want {
					t.Errorf("In(%d, %d, %d) is %v", start, size, n, got)
				}
			}
		}
	}
}

// P6.6

func TestWindowWithExamples(t *testing.T) {
	for _, c := range []struct {
		start, size int
		want        []int
	}{
		{4095, 3, []int{4095, 0, 1}}, {0, 4, []int{0, 1, 2, 3}}, {4094, 4, []int{4094, 4095, 0, 1}}, {4095, 1, []int{4095}}, {9, 1, []int{9}},
		{9, 0, nil}, {9, -1, nil}, {9, -5, nil}, {0, math.MinInt, nil}, {4096, 2, []int{0, 1}}, {-2, 4, []int{4094, 4095, 0, 1}},
		{math.MaxInt, 3, []int{4095, 0, 1}}, {math.MinInt, 3, []int{0, 1, 2}}, {math.MaxInt, -1, nil},
	} {
		if got := slices.Collect(Window(c.start, c.size)); !slices.Equal(got, c.want) {
			t.Errorf("Window(%d, %d) yields %v, want %v", c.start, c.size, got, c.want)
		}
	}
}

func TestWindowYieldsTheNumbersInOrder(t *testing.T) {
	for _, start := range starts {
		for _, size := range sizes {
			if got, want := slices.Collect(Window(start, size)), window(start, size); !slices.Equal(got, want) {
				t.Errorf("Window(%d, %d) yields %d numbers: %v", start, size, len(got), got)
			}
		}
	}
}

func TestWindowIsNeverLongerThan4096(t *testing.T) {
	for _, size := range []int{4096, 4097, 8192, math.MaxInt32, math.MaxInt} {
		l := slices.Collect(Window(4000, size))
		if len(l) != 4096 || l[0] != 4000 || l[95] != 4095 || l[96] != 0 || l[4095] != 3999 {
			t.Errorf("Window(4000, %d) yields %d numbers", size, len(l))
		}
	}
}

// stopped calls the window's iterator with a function that ends the loop after the given number of numbers, and returns what it yielded.
func stopped(start, size, after int) []int {
	var l []int
	Window(start, size)(func(n int) bool {
		l = append(l, n)
		return len(l) < after
	})
	return l
}

func TestWindowStopsAtEveryPlace(t *testing.T) {
	for _, start := range []int{0, 4090, 4095, -3, math.MaxInt, math.MinInt} {
		for _, size := range []int{1, 2, 5, 64, 300} {
			for after := 1; after <= size; after++ {
				if got, want := stopped(start, size, after), window(start, after); !slices.Equal(got, want) {
					t.Errorf("Window(%d, %d) stopped after %d numbers yields %v", start, size, after, got)
				}
			}
		}
	}
	for after := 1; after <= 4096; after++ {
		if got, want := stopped(3, math.MaxInt, after), window(3, after); !slices.Equal(got, want) {
			t.Errorf("Window(3, MaxInt) stopped after %d numbers yields %d", after, len(got))
		}
	}
}

func TestWindowInALoopThatEnds(t *testing.T) {
	var l []int
	for n := range Window(4094, 100) {
		if n == 3 {
			break
		}
		l = append(l, n)
	}
	if want := []int{4094, 4095, 0, 1, 2}; !slices.Equal(l, want) {
		t.Errorf("the loop saw %v, want %v", l, want)
	}
}

// R5: the iterator keeps nothing from one loop for the next one, or for a loop inside it.

func TestWindowCanBeUsedAgain(t *testing.T) {
	w := Window(4094, 4)
	want := []int{4094, 4095, 0, 1}
	for range w {
		break
	}
	for range 2 {
		if got := slices.Collect(w); !slices.Equal(got, want) {
			t.Errorf("a later loop sees %v, want %v", got, want)
		}
	}
	var outer []int
	for n := range w {
		outer = append(outer, n)
		if got := slices.Collect(w); !slices.Equal(got, want) {
			t.Errorf("a loop inside another one sees %v, want %v", got, want)
		}
	}
	if !slices.Equal(outer, want) {
		t.Errorf("the outer loop sees %v, want %v", outer, want)
	}
}

// P6.7

func TestOneOfTwoNumbersPrecedesTheOther(t *testing.T) {
	for _, a := range []int{0, 1, 2, 1000, 2047, 2048, 2049, 4094, 4095} {
		for b := range modulus {
			one, other := Before(a, b), Before(b, a)
			opposite := b-a == 2048 || a-b == 2048
			switch {
			case a == b || opposite:
				if one || other {
					t.Errorf("of %d and %d, one precedes the other", a, b)
				}
			case one == other:
				t.Errorf("Before is %v for %d and %d in both orders", one, a, b)
			}
		}
	}
}

// P6.8

func TestShiftsKeepTheDistance(t *testing.T) {
	l := ints()
	for _, a := range l {
		for i := 0; i < len(l); i += 5 {
			for j := 0; j < len(l); j += 3 {
				b, k := l[i], l[j]
				if got, want := Distance(Add(a, k), Add(b, k)), Distance(a, b); got != want {
					t.Errorf("the distance from %d to %d is %d, and %d after a shift by %d", a, b, want, got, k)
				}
			}
		}
	}
}

func TestAddUndoesDistance(t *testing.T) {
	for _, a := range ints() {
		for b := range modulus {
			if got := Add(a, Distance(a, b)); got != b {
				t.Errorf("Add(%d, Distance(%d, %d)) is %d", a, a, b, got)
			}
		}
	}
}

// P6.9

func TestInIsTrueForTheNumbersOfTheWindow(t *testing.T) {
	for _, start := range starts {
		for _, size := range sizes {
			var members [modulus]bool
			for n := range Window(start, size) {
				if members[n] {
					t.Errorf("Window(%d, %d) yields %d twice", start, size, n)
				}
				members[n] = true
			}
			for n, member := range members {
				if In(start, size, n) != member {
					t.Errorf("In(%d, %d, %d) is %v", start, size, n, !member)
				}
			}
			for _, n := range []int{-1, -4096, 4096, 4097, 8191, math.MinInt, math.MaxInt} {
				if In(start, size, n) {
					t.Errorf("In(%d, %d, %d) is true", start, size, n)
				}
			}
		}
	}
}

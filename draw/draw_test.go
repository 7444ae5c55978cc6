package draw

import (
	"math"
	"math/big"
	"math/rand"
	"slices"
	"testing"
)

// golden is the state that the state 0 counts as.
const golden uint64 = 0x9e3779b97f4a7c15

// all has all 64 bits.
const all = ^uint64(0)

// states are the ends of the range, single bits, their complements, what 0 counts as, and others; it is the same list in every run.
func states() []uint64 {
	r := rand.New(rand.NewSource(1))
	l := []uint64{0, 1, 2, 3, golden, golden - 1, golden + 1, all, all - 1, 1082269761}
	for i := range 64 {
		l = append(l, 1<<i, ^(uint64(1) << i), all<<i, all>>i)
	}
	for range 2000 {
		l = append(l, r.Uint64())
	}
	return l
}

// bounds are the ends of the range of int, those of smaller types, and others; all are above 0.
func bounds() []int {
	r := rand.New(rand.NewSource(2))
	l := []int{1, 2, 3, 5, 7, 8, 10, 63, 64, 65, 100, 1000, 1023, 1024, 4096,
		math.MaxInt32, math.MaxInt32 + 1, math.MaxUint32, math.MaxUint32 + 1,
		1<<53 - 1, 1 << 53, 1<<53 + 1, 1 << 62, math.MaxInt - 1, math.MaxInt}
	for range 100 {
		l = append(l, 1+r.Intn(1<<r.Intn(62)))
	}
	return l
}

// unbounded are the bounds below 1.
var unbounded = []int{0, -1, -2, -5, -64, -100, math.MinInt32, math.MinInt32 - 1, math.MinInt + 1, math.MinInt}

// bit returns the bit i of x, or 0 if x has no such bit.
func bit(x uint64, i int) uint64 {
	if i < 0 || i > 63 {
		return 0
	}
	return x >> i & 1
}

// mixed returns x XOR x, shifted to the left by n, bit by bit; a negative n shifts to the right.
func mixed(x uint64, n int) uint64 {
	var y uint64
	for i := range 64 {
		y |= (bit(x, i) ^ bit(x, i-n)) << i
	}
	return y
}

// stepped is the state after the step of x, as the chapter defines it.
func stepped(x uint64) uint64 {
	if x == 0 {
		x = golden
	}
	return mixed(mixed(mixed(x, 13), -7), 17)
}

// back returns the state whose step gives y, apart from 0: it undoes the three parts of a step, the last one first.
func back(y uint64) uint64 {
	x := y
	for i := 17; i < 64; i++ {
		x ^= bit(x, i-17) << i
	}
	for i := 63 - 7; i >= 0; i-- {
		x ^= bit(x, i+7) << i
	}
	for i := 13; i < 64; i++ {
		x ^= bit(x, i-13) << i
	}
	return x
}

// P4.1

func TestNextOfKnownStates(t *testing.T) {
	for _, c := range []struct{ x, want uint64 }{
		{1, 1082269761},
		{0, 0xdc1b77ae0bf34dad},
		{golden, 0xdc1b77ae0bf34dad},
		{2, 0x81044082},
		{3, 0xc18660c3},
		{1 << 63, 0x8100000000000000},
		{all, 0x3f801fc0},
		{all - 1, 0x7f023f81},
		{math.MaxInt64, 0x810000003f801fc0},
		{1082269761, 0x100041060c011441},
		{0x0123456789abcdef, 0x3f2800d6569e01b4},
	} {
		if y := Next(c.x); y != c.want {
			t.Errorf("Next(%#x) = %#x, want %#x", c.x, y, c.want)
		}
	}
}

func TestNextIsTheStep(t *testing.T) {
	for _, x := range states() {
		if y := Next(x); y != stepped(x) {
			t.Errorf("Next(%#x) = %#x, want %#x", x, y, stepped(x))
		}
	}
}

func TestNextGoesOnFromEachState(t *testing.T) {
	got, want := uint64(0), uint64(0)
	for i := range 1000 {
		got, want = Next(got), stepped(want)
		if got != want {
			t.Fatalf("state %d is %#x, want %#x", i, got, want)
		}
	}
}

// P4.2

func TestBelowOfKnownStates(t *testing.T) {
	for _, c := range []struct {
		x    uint64
		n    int
		want int
		next uint64
	}{
		{1, 100, 52, 1082269761},
		{1, 1, 0, 1082269761},
		{1, 2, 0, 1082269761},
		{1, 3, 2, 1082269761},
		{1, 64, 4, 1082269761},
		{1, math.MaxInt, 528452, 1082269761},
		{0, 1, 0, 0xdc1b77ae0bf34dad},
		{0, 2, 1, 0xdc1b77ae0bf34dad},
		{0, 100, 57, 0xdc1b77ae0bf34dad},
		{0, 1 << 31, 1975615081, 0xdc1b77ae0bf34dad},
		{0, math.MaxInt, 7744336963927657, 0xdc1b77ae0bf34dad},
		{golden, 1000, 657, 0xdc1b77ae0bf34dad},
		{1 << 63, 5, 3, 0x8100000000000000},
		{1 << 63, math.MaxInt, 4538783999459328, 0x8100000000000000},
		{all, 100, 95, 0x3f801fc0},
		{all, math.MaxInt, 520195, 0x3f801fc0},
	} {
		if i, y := Below(c.x, c.n); i != c.want || y != c.next {
			t.Errorf("Below(%#x, %d) = %d, %#x, want %d, %#x", c.x, c.n, i, y, c.want, c.next)
		}
	}
}

func TestBelowIsTheUpperBitsModuloTheBound(t *testing.T) {
	for _, x := range states() {
		for _, n := range bounds() {
			next := stepped(x)
			want := int64(next>>11) % int64(n)
			if i, y := Below(x, n); int64(i) != want || y != next {
				t.Errorf("Below(%#x, %d) = %d, %#x, want %d, %#x", x, n, i, y, want, next)
			}
		}
	}
}

func TestBelowWithoutABound(t *testing.T) {
	for _, x := range states() {
		for _, n := range unbounded {
			if i, y := Below(x, n); i != 0 || y != x {
				t.Errorf("Below(%#x, %d) = %d, %#x, want 0 and the state itself", x, n, i, y)
			}
		}
	}
}

// P4.3

func TestStreamOfKnownFlows(t *testing.T) {
	for _, c := range []struct {
		seed       int64
		node, flow int
		want       uint64
	}{
		{0, 0, 0, 0x9b1e842f6e862629},
		{0, 0, 1, 0xd8f6256b5439a048},
		{0, 0, 4, 0x9c7ff92738d016d5},
		{0, 1, 0, 0x7b5bd41b8539edf3},
		{1, 0, 0, 0x4b1afe0ee9806718},
		{1, 2, 3, 0xee483040a0cead9c},
		{42, 15, 4, 0x8c74da573ddbfdff},
		{1234567890123, 7, 2, 0x2cec90f36f6adeeb},
		{-1, 0, 0, 0xbb72ac90eb679cf5},
		{0, -1, 0, 0x8b33868587de161e},
		{0, 0, -1, 0xf068529e02e7fbed},
		{-1, -1, -1, 0x5e99f1b5a8d5612c},
		{-42, 3, 2, 0xb876f1f87a3c1d73},
		{math.MaxInt64, 0, 0, 0x72f0a890eb679cf5},
		{math.MinInt64, 0, 0, 0x529c802f6e862629},
		{0, math.MaxInt, 0, 0x42b1828587de161e},
		{0, math.MinInt, 0, 0x529c802f6e862629},
		{0, 0, math.MaxInt, 0x39ea569e02e7fbed},
		{0, 0, math.MinInt, 0x529c802f6e862629},
		{math.MaxInt64, math.MaxInt, math.MaxInt, 0x971bf5b5a8d5612c},
		{math.MinInt64, math.MinInt, math.MinInt, 0x529c802f6e862629},
	} {
		if x := Stream(c.seed, c.node, c.flow); x != c.want {
			t.Errorf("Stream(%d, %d, %d) = %#x, want %#x", c.seed, c.node, c.flow, x, c.want)
		}
	}
	if Stream(0, 0, 0) != Next(Next(Next(1))) {
		t.Error("the example of the chapter")
	}
}

// The sum is 0 for this flow, so that the first of the three steps begins at what 0 counts as.
func TestStreamFromTheState0(t *testing.T) {
	const flow = -7905747460161236407
	want := uint64(0x7b07ce91e5906136)
	if x := Stream(0, 0, flow); x != want || x != Next(Next(Next(0))) {
		t.Errorf("Stream(0, 0, %d) = %#x, want %#x", flow, x, want)
	}
}

// origin is the sum that a stream begins with, computed without overflow and reduced at the end.
func origin(seed int64, node, flow int) uint64 {
	factor := func(a, b int64) *big.Int { return new(big.Int).Mul(big.NewInt(a), big.NewInt(b)) }
	sum := big.NewInt(1)
	sum.Add(sum, factor(seed, 2862933555777941757))
	sum.Add(sum, factor(int64(node), 3037000493))
	sum.Add(sum, factor(int64(flow), 7))
	// Mod is not negative, as two's complement requires.
	return sum.Mod(sum, new(big.Int).Lsh(big.NewInt(1), 64)).Uint64()
}

func TestStreamIsThreeStepsFromTheSum(t *testing.T) {
	l := []int{0, 1, 2, 3, 4, 15, 16, -1, -2, -15, 1 << 31, -1 << 31, 1 << 32, -1 << 32, math.MaxInt - 1, math.MaxInt, math.MinInt, math.MinInt + 1}
	for _, seed := range append(l, 1234567890123, -1234567890123) {
		for _, node := range l {
			for _, flow := range l {
				want := stepped(stepped(stepped(origin(int64(seed), node, flow))))
				if x := Stream(int64(seed), node, flow); x != want {
					t.Errorf("Stream(%d, %d, %d) = %#x, want %#x", seed, node, flow, x, want)
				}
			}
		}
	}
}

// P4.4

func TestOrderOfKnownStates(t *testing.T) {
	for _, c := range []struct {
		x    uint64
		n    int
		want []int
		next uint64
	}{
		{1, 1, []int{0}, 1},
		{0, 1, []int{0}, 0},
		{all, 1, []int{0}, all},
		{0, 2, []int{0, 1}, 0xdc1b77ae0bf34dad},
		{1, 2, []int{1, 0}, 1082269761},
		{7, 3, []int{0, 1, 2}, 0x7001c71224016dc4},
		{1, 4, []int{2, 3, 1, 0}, 0x9b1e842f6e862629},
		{all, 5, []int{4, 2, 3, 1, 0}, 0x3217a46feef88ffb},
		{1 << 63, 6, []int{1, 2, 3, 4, 5, 0}, 0x8d01220810000000},
		{0, 8, []int{2, 5, 6, 7, 0, 4, 3, 1}, 0x9ad2e144d6e8f2cf},
		{golden, 8, []int{2, 5, 6, 7, 0, 4, 3, 1}, 0x9ad2e144d6e8f2cf},
		{99, 10, []int{2, 7, 5, 0, 9, 6, 8, 1, 4, 3}, 0x38b4863c6096f91d},
		{1, 64, []int{
			51, 5, 41, 36, 21, 61, 16, 13, 38, 33, 34, 59, 39, 60, 29, 35,
			3, 20, 7, 47, 43, 2, 9, 27, 56, 8, 57, 31, 28, 48, 42, 18,
			6, 45, 19, 53, 26, 52, 32, 30, 22, 15, 54, 40, 14, 62, 55, 37,
			12, 11, 0, 24, 25, 44, 63, 1, 23, 17, 10, 50, 49, 58, 46, 4,
		}, 0x0ba2a63ea26f1b48},
	} {
		if l, y := Order(c.x, c.n); !slices.Equal(l, c.want) || y != c.next {
			t.Errorf("Order(%#x, %d) = %v, %#x, want %v, %#x", c.x, c.n, l, y, c.want, c.next)
		}
	}
}

// ordered is the permutation and the next state as the chapter defines them, for n from 0 to 64.
func ordered(x uint64, n int) ([]int, uint64) {
	l := make([]int, n)
	for i := range n {
		l[i] = i
	}
	for i := n - 1; i >= 1; i-- {
		x = stepped(x)
		j := int(x / 2048 % uint64(i+1))
		moved := l[i]
		l[i] = l[j]
		l[j] = moved
	}
	return l, x
}

func TestOrderIsDrawnElementByElement(t *testing.T) {
	for _, x := range states() {
		for _, n := range []int{0, 1, 2, 3, 4, 5, 8, 10, 16, 31, 32, 33, 63, 64} {
			want, next := ordered(x, n)
			if l, y := Order(x, n); !slices.Equal(l, want) || y != next {
				t.Errorf("Order(%#x, %d) = %v, %#x, want %v, %#x", x, n, l, y, want, next)
			}
		}
	}
}

func TestOrderOfMoreThan64(t *testing.T) {
	for _, x := range states() {
		want, next := ordered(x, 64)
		for _, n := range []int{65, 66, 100, 128, 1 << 20, math.MaxInt32, 1 << 32, math.MaxInt} {
			if l, y := Order(x, n); !slices.Equal(l, want) || y != next {
				t.Errorf("Order(%#x, %d) = %v, %#x, want that of 64: %v, %#x", x, n, l, y, want, next)
			}
		}
	}
}

func TestOrderOfNothing(t *testing.T) {
	for _, x := range states() {
		for _, n := range unbounded {
			if l, y := Order(x, n); len(l) != 0 || y != x {
				t.Errorf("Order(%#x, %d) = %v, %#x, want nothing and the state itself", x, n, l, y)
			}
		}
	}
}

func TestOrderOfOneKeepsTheState(t *testing.T) {
	for _, x := range states() {
		if l, y := Order(x, 1); !slices.Equal(l, []int{0}) || y != x {
			t.Errorf("Order(%#x, 1) = %v, %#x", x, l, y)
		}
	}
}

// R5: lists in results are new memory.
func TestOrderReturnsNewMemory(t *testing.T) {
	for _, n := range []int{1, 2, 10, 64, 100} {
		a, _ := Order(99, n)
		want := slices.Clone(a)
		b, _ := Order(99, n)
		clear(a)
		c, _ := Order(99, n)
		if !slices.Equal(b, want) || !slices.Equal(c, want) {
			t.Errorf("Order(99, %d) changed with an earlier result: %v, %v, want %v", n, b, c, want)
		}
	}
}

// P4.5

func TestNextIsNever0(t *testing.T) {
	for _, x := range states() {
		for range 20 {
			if x = Next(x); x == 0 {
				t.Fatal("Next returned 0")
			}
		}
	}
}

// A step of a state other than 0 is linear over the single bits; it gives different states for different ones, and never 0, exactly if those of the single bits are independent.
func TestNextOfTheSingleBitsIsIndependent(t *testing.T) {
	var reduced [64]uint64 // by the most significant bit
	rank := 0
	for i := range 64 {
		x := Next(1 << i)
		for k := 63; k >= 0 && x != 0; k-- {
			if bit(x, k) == 0 {
				continue
			}
			if reduced[k] == 0 {
				reduced[k] = x
				rank++
				break
			}
			x ^= reduced[k]
		}
	}
	if rank != 64 {
		t.Error("the rank of the step is", rank)
	}
	for _, x := range states() {
		if x == 0 {
			continue
		}
		var sum uint64
		for i := range 64 {
			if bit(x, i) == 1 {
				sum ^= Next(1 << i)
			}
		}
		if Next(x) != sum {
			t.Errorf("Next(%#x) = %#x, but its single bits give %#x", x, Next(x), sum)
		}
	}
}

func TestNextIsUndone(t *testing.T) {
	for _, x := range states() {
		want := x
		if x == 0 {
			want = golden
		}
		if y := back(Next(x)); y != want {
			t.Errorf("Next(%#x) is also Next(%#x)", want, y)
		}
	}
}

func TestNextOfDifferentStatesIsDifferent(t *testing.T) {
	from := map[uint64]uint64{}
	for _, x := range states() {
		if x == 0 {
			continue
		}
		y := Next(x)
		if other, ok := from[y]; ok && other != x {
			t.Errorf("Next(%#x) and Next(%#x) are both %#x", other, x, y)
		}
		from[y] = x
	}
	if Next(0) != Next(golden) {
		t.Error("0 does not count as", golden)
	}
}

func TestBelowIsBelow(t *testing.T) {
	for _, x := range states() {
		for _, n := range append(bounds(), unbounded...) {
			if i, _ := Below(x, n); i < 0 || i > max(n, 1)-1 {
				t.Errorf("Below(%#x, %d) = %d", x, n, i)
			}
		}
	}
}

func TestBelowReachesEveryNumber(t *testing.T) {
	for n := 1; n <= 100; n++ {
		seen := make([]bool, n)
		left := n
		x := Stream(int64(n), 0, 0)
		for range 10000 {
			var i int
			if i, x = Below(x, n); !seen[i] {
				seen[i] = true
				left--
			}
		}
		if left > 0 {
			t.Errorf("Below with %d never returned %d of the numbers", n, left)
		}
	}
}

func TestOrderHasEveryNumberOnce(t *testing.T) {
	for _, x := range states() {
		for n := -1; n <= 70; n++ {
			l, _ := Order(x, n)
			if len(l) != min(max(n, 0), 64) {
				t.Fatalf("Order(%#x, %d) has %d elements", x, n, len(l))
			}
			slices.Sort(l)
			for i, k := range l {
				if i != k {
					t.Fatalf("Order(%#x, %d) has the elements %v", x, n, l)
				}
			}
		}
	}
}

package fragment

import (
	"math"
	"math/big"
	"math/rand"
	"slices"
	"strings"
	"testing"
)

// The limits as the documents state them, so that a changed constant of the program is noticed.
const (
	mostPieces = 16
	mostOctets = 2048
	numbers    = 4096
)

// filled returns n octets, which differ from those of other lengths and do not repeat with a period that a piece could have.
func filled(n int) string {
	s := make([]byte, n)
	for i := range s {
		s[i] = byte(i*i/7 + i + 3*n)
	}
	return string(s)
}

// cut takes a size away from octets again and again, until no more than a size is left.
func cut(octets, size int) []int {
	var l []int
	for octets > size {
		l = append(l, size)
		octets -= size
	}
	return append(l, octets)
}

// sizesOf are the lengths of the pieces as the chapter defines them.
func sizesOf(octets, threshold int) []int {
	if threshold < 1 || threshold >= octets {
		return []int{octets}
	}
	if l := cut(octets, threshold); len(l) <= mostPieces {
		return l
	}
	size := octets / mostPieces
	if octets%mostPieces > 0 {
		size++
	}
	return cut(octets, size)
}

// piecesOf are the pieces of a packet as the chapter defines them.
func piecesOf(data string, threshold int) []string {
	var l []string
	at := 0
	for _, n := range sizesOf(len(data), threshold) {
		l = append(l, data[at:at+n])
		at += n
	}
	return l
}

// countOf is what the chapter says of Count, computed with numbers of unlimited size.
func countOf(octets, threshold int) int {
	if octets < 0 {
		octets = 0
	}
	if threshold < 1 || threshold >= octets {
		return 1
	}
	n := rounded(big.NewInt(int64(octets)), big.NewInt(int64(threshold)))
	if n.Cmp(big.NewInt(mostPieces)) > 0 {
		size := rounded(big.NewInt(int64(octets)), big.NewInt(mostPieces))
		n = rounded(big.NewInt(int64(octets)), size)
	}
	return int(n.Int64())
}

// rounded is a divided by b, rounded up.
func rounded(a, b *big.Int) *big.Int {
	n, rest := new(big.Int).DivMod(a, b, new(big.Int))
	if rest.Sign() > 0 {
		n.Add(n, big.NewInt(1))
	}
	return n
}

// lengths are the numbers of octets of strings.
func lengths(l []string) []int {
	var n []int
	for _, s := range l {
		n = append(n, len(s))
	}
	return n
}

// wantSplit checks the result of Split.
func wantSplit(t *testing.T, data string, threshold int, want []string) {
	t.Helper()
	if l := Split(data, threshold); !slices.Equal(l, want) {
		t.Fatalf("Split of %d octets with the threshold %d gives %q with the lengths %d, want %q with the lengths %d", len(data), threshold, l, lengths(l), want, lengths(want))
	}
}

// wantCount checks the result of Count.
func wantCount(t *testing.T, octets, threshold, want int) {
	t.Helper()
	if n := Count(octets, threshold); n != want {
		t.Fatalf("Count(%d, %d) is %d, want %d", octets, threshold, n, want)
	}
}

// trySplit compares Split and Count with the chapter's definitions, and Count with Split.
func trySplit(t *testing.T, data string, threshold int) {
	t.Helper()
	want := piecesOf(data, threshold)
	wantSplit(t, data, threshold, want)
	wantCount(t, len(data), threshold, len(want))
	wantCount(t, len(data), threshold, len(Split(data, threshold)))
}

// thresholds are those at which something changes for a packet of this length, with their neighbours, and both ends of int.
func thresholds(octets int) []int {
	l := []int{math.MinInt, math.MinInt + 1, -octets, math.MaxInt - 1, math.MaxInt}
	for _, middle := range []int{0, octets, octets / 2, octets / 15, octets / 16, octets / 17, octets / 32} {
		for d := -3; d <= 3; d++ {
			l = append(l, middle+d)
		}
	}
	return l
}

// P18.1

func TestSplitOfTheExamples(t *testing.T) {
	wantSplit(t, "abcdefg", 3, []string{"abc", "def", "g"})
	data := filled(33)
	l := Split(data, 2)
	if len(l) != 11 {
		t.Fatalf("33 octets with the threshold 2 have %d pieces, want 11", len(l))
	}
	for i, s := range l {
		if s != data[3*i:3*i+3] {
			t.Errorf("piece %d of 33 octets is %q, want %q", i, s, data[3*i:3*i+3])
		}
	}
}

func TestSplitIntoPiecesOfWrittenLengths(t *testing.T) {
	run := func(k, n int, rest ...int) []int {
		return append(slices.Repeat([]int{n}, k), rest...)
	}
	for _, c := range []struct {
		octets, threshold int
		want              []int
	}{
		{1, 0, []int{1}}, {1, 1, []int{1}}, {1, 2, []int{1}},
		{2, 1, []int{1, 1}}, {2, 2, []int{2}}, {2, 3, []int{2}},
		{7, 6, []int{6, 1}}, {7, 7, []int{7}}, {7, 4, []int{4, 3}},
		{15, 1, run(15, 1)}, {15, 14, []int{14, 1}}, {15, 15, []int{15}}, {15, 16, []int{15}},
		{16, 1, run(16, 1)}, {16, 2, run(8, 2)}, {16, 15, []int{15, 1}}, {16, 16, []int{16}},
		{17, 1, run(8, 2, 1)}, {17, 2, run(8, 2, 1)}, {17, 16, []int{16, 1}}, {17, 17, []int{17}},
		{31, 1, run(15, 2, 1)}, {31, 2, run(15, 2, 1)}, {31, 30, []int{30, 1}},
		{32, 1, run(16, 2)}, {32, 2, run(16, 2)}, {32, 3, run(10, 3, 2)}, {32, 31, []int{31, 1}},
		{33, 1, run(11, 3)}, {33, 2, run(11, 3)}, {33, 3, run(11, 3)}, {33, 4, run(8, 4, 1)}, {33, 32, []int{32, 1}},
		{34, 2, run(11, 3, 1)}, {48, 2, run(16, 3)}, {48, 3, run(16, 3)}, {49, 3, run(12, 4, 1)},
		{2047, 127, run(15, 128, 127)}, {2047, 128, run(15, 128, 127)}, {2047, 2046, []int{2046, 1}},
		{2048, 1, run(16, 128)}, {2048, 127, run(16, 128)}, {2048, 128, run(16, 128)}, {2048, 129, run(15, 129, 113)},
		{2048, 136, run(15, 136, 8)}, {2048, 137, run(14, 137, 130)}, {2048, 1024, []int{1024, 1024}}, {2048, 2047, []int{2047, 1}},
		{2049, 128, run(15, 129, 114)}, {2049, 2048, []int{2048, 1}}, {2049, 2049, []int{2049}},
		{100000, 6250, run(16, 6250)}, {100000, 6249, run(16, 6250)}, {100001, 6250, run(15, 6251, 6236)},
	} {
		l := Split(filled(c.octets), c.threshold)
		if n := lengths(l); !slices.Equal(n, c.want) {
			t.Errorf("%d octets with the threshold %d have pieces of the lengths %d, want %d", c.octets, c.threshold, n, c.want)
		}
		if strings.Join(l, "") != filled(c.octets) {
			t.Errorf("the pieces of %d octets with the threshold %d are not the packet", c.octets, c.threshold)
		}
		wantCount(t, c.octets, c.threshold, len(c.want))
	}
}

func TestSplitOfAnEmptyPacket(t *testing.T) {
	for _, threshold := range []int{math.MinInt, -5, -1, 0, 1, 2, 4, 2048, math.MaxInt} {
		wantSplit(t, "", threshold, []string{""})
		wantCount(t, 0, threshold, 1)
	}
}

func TestSplitWithoutDivision(t *testing.T) {
	for _, n := range []int{1, 2, 15, 16, 17, 31, 32, 33, 2047, 2048, 2049, 100000} {
		data := filled(n)
		for _, threshold := range []int{math.MinInt, -n, -1, 0, n, n + 1, 16 * n, math.MaxInt} {
			wantSplit(t, data, threshold, []string{data})
			wantCount(t, n, threshold, 1)
		}
		if l := Split(data, n-1); n > 1 && len(l) == 1 {
			t.Errorf("%d octets are not divided by the threshold %d", n, n-1)
		}
	}
}

func TestSplitOfSmallPackets(t *testing.T) {
	for n := range 300 {
		data := filled(n)
		for threshold := -2; threshold <= n+2; threshold++ {
			trySplit(t, data, threshold)
		}
	}
}

func TestSplitAtTheLimits(t *testing.T) {
	for _, n := range []int{0, 1, 15, 16, 17, 31, 32, 33, 255, 256, 257, 1023, 1024, 1025, 2047, 2048, 2049, 2300, 65535, 65536, 1000003} {
		data := filled(n)
		for _, threshold := range thresholds(n) {
			trySplit(t, data, threshold)
		}
	}
}

func TestSplitOfTheLongestBody(t *testing.T) {
	for _, n := range []int{mostOctets - 1, mostOctets, mostOctets + 1} {
		data := filled(n)
		for threshold := -1; threshold <= n+1; threshold++ {
			trySplit(t, data, threshold)
		}
	}
}

// The pieces of a packet are the same for equal octets, and a caller may change the list that it gets.
func TestSplitGivesNewMemory(t *testing.T) {
	data := filled(100)
	l := Split(data, 30)
	for i := range l {
		l[i] = "changed"
	}
	_ = append(l[:1], "more")
	wantSplit(t, data, 30, piecesOf(filled(100), 30))
}

// P18.2

func TestCountOfTheExamples(t *testing.T) {
	wantCount(t, 33, 2, 11)
	wantCount(t, 0, 5, 1)
	wantCount(t, 7, 3, 3)
}

func TestCountOfNegativeNumbers(t *testing.T) {
	for _, octets := range []int{math.MinInt, math.MinInt + 1, -1 << 32, -4096, -2048, -33, -17, -16, -7, -2, -1} {
		for _, threshold := range []int{math.MinInt, octets - 1, octets, octets + 1, octets / 2, -2, -1, 0, 1, 2, 5, math.MaxInt} {
			wantCount(t, octets, threshold, 1)
		}
	}
}

func TestCountOfTheGreatestNumbers(t *testing.T) {
	most := math.MaxInt
	for _, c := range []struct{ octets, threshold, want int }{
		{most, 1, 16}, {most, 2, 16}, {most, most / 17, 16}, {most, most / 16, 16}, {most, most/16 + 1, 16},
		{most, most / 15, 16}, {most, most/15 + 1, 15}, {most, most / 3, 4}, {most, most/3 + 1, 3},
		{most, most / 2, 3}, {most, most/2 + 1, 2}, {most, most - 1, 2}, {most, most, 1}, {most, 0, 1}, {most, -1, 1}, {most, math.MinInt, 1},
		{most - 1, 1, 16}, {most - 1, most - 2, 2}, {most - 1, most - 1, 1}, {most - 1, most, 1}, {most - 1, most / 2, 2},
		{most - 15, 1, 16}, {most - 15, most/16 - 1, 16}, {most - 15, most / 16, 16}, {most - 14, most / 16, 16},
	} {
		wantCount(t, c.octets, c.threshold, c.want)
	}
}

func TestCountOfMany(t *testing.T) {
	r := rand.New(rand.NewSource(18))
	for range 20000 {
		octets := int(r.Uint64() >> (1 + r.Intn(63)))
		for _, threshold := range append(thresholds(octets), r.Int()>>r.Intn(63)) {
			wantCount(t, octets, threshold, countOf(octets, threshold))
		}
	}
	for _, octets := range []int{math.MaxInt, math.MaxInt - 1, math.MaxInt - 14, math.MaxInt - 15, math.MaxInt - 16, 1 << 62, 1<<62 + 1, 1<<32 - 1, 1 << 32} {
		for _, threshold := range thresholds(octets) {
			wantCount(t, octets, threshold, countOf(octets, threshold))
		}
	}
}

// P18.4

// checkPieces checks what the chapter concludes about the pieces of a packet.
func checkPieces(t *testing.T, data string, threshold int) {
	t.Helper()
	l := Split(data, threshold)
	if strings.Join(l, "") != data {
		t.Fatalf("the pieces of %d octets with the threshold %d are not the packet", len(data), threshold)
	}
	if len(l) != Count(len(data), threshold) || len(l) < 1 || len(l) > mostPieces {
		t.Fatalf("%d octets with the threshold %d have %d pieces, and Count says %d", len(data), threshold, len(l), Count(len(data), threshold))
	}
	last := l[len(l)-1]
	for i, s := range l[:len(l)-1] {
		if len(s) != len(l[0]) || len(last) > len(s) || s == "" {
			t.Fatalf("piece %d of %d octets with the threshold %d has %d octets, the first one %d and the last one %d", i, len(data), threshold, len(s), len(l[0]), len(last))
		}
	}
	if last == "" && data != "" {
		t.Fatalf("the last piece of %d octets with the threshold %d is empty", len(data), threshold)
	}
}

func TestPiecesOfPackets(t *testing.T) {
	for n := range 200 {
		data := filled(n)
		for threshold := -1; threshold <= n+1; threshold++ {
			checkPieces(t, data, threshold)
		}
	}
	for _, n := range []int{2047, 2048, 2049, 4096, 65537} {
		for _, threshold := range thresholds(n) {
			checkPieces(t, filled(n), threshold)
		}
	}
}

func TestPiecesOfRandomPackets(t *testing.T) {
	r := rand.New(rand.NewSource(184))
	for range 3000 {
		b := make([]byte, r.Intn(5000))
		r.Read(b)
		for _, threshold := range []int{r.Intn(len(b) + 2), r.Intn(len(b)/8 + 2), r.Intn(20), r.Int() - r.Int()} {
			checkPieces(t, string(b), threshold)
			trySplit(t, string(b), threshold)
		}
	}
}

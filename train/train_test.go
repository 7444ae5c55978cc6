package train

import (
	"math"
	"math/rand"
	"slices"
	"strings"
	"testing"

	"airtime/api"
)

// The limits as the documents state them, so that a changed constant of the program is noticed.
const (
	mostFrames   = 64
	mostOctets   = 8192
	longestFrame = 2300
)

// filled returns n letters, which are not all the same. No octet of a delimiter's end is among them.
func filled(n int) string {
	s := make([]byte, n)
	for i := range s {
		s[i] = byte('a' + (7*i+n)%26)
	}
	return string(s)
}

// sized returns frames of these lengths.
func sized(lengths ...int) []string {
	var l []string
	for _, n := range lengths {
		l = append(l, filled(n))
	}
	return l
}

// crc8 is the CRC-8 as chapter 3 defines it, bit by bit.
func crc8(s string) byte {
	register := 0xff
	for i := range len(s) {
		register ^= int(s[i])
		for range 8 {
			register <<= 1
			if register >= 256 {
				register = (register - 256) ^ 0x07
			}
		}
	}
	return byte(register ^ 0xff)
}

// delimiterOf is the delimiter for n octets, also if n is not possible but fits in two octets.
func delimiterOf(n int) string {
	length := string([]byte{byte(n % 256), byte(n / 256)})
	return length + string([]byte{crc8(length), 0x4e})
}

// filledUp is s with octets 0 up to a multiple of 4.
func filledUp(s string) string {
	for len(s)%4 != 0 {
		s += "\x00"
	}
	return s
}

// octetsOf are the octets of an aggregate as the chapter defines them.
func octetsOf(l []string) string {
	s := ""
	for _, data := range l {
		s = filledUp(s) + delimiterOf(len(data)) + data
	}
	return s
}

// lengthsOf are the lengths of frames.
func lengthsOf(l []string) []int {
	lengths := []int{}
	for _, s := range l {
		lengths = append(lengths, len(s))
	}
	return lengths
}

// measured is what the chapter says of an aggregate of frames of these lengths: how many octets it has, or the error of Encode.
func measured(l []int) (int, api.Errno) {
	if len(l) == 0 {
		return -1, api.ErrNone
	}
	if len(l) > mostFrames {
		return -1, api.ErrFull
	}
	for _, n := range l {
		if n < 1 || n > longestFrame {
			return -1, api.ErrRange
		}
	}
	octets := 0
	for i, n := range l {
		octets += 4 + n
		for i < len(l)-1 && octets%4 != 0 {
			octets++
		}
	}
	if octets > mostOctets {
		return -1, api.ErrLong
	}
	return octets, api.OK
}

// filling is what the chapter says of Fill: of all beginnings, also those behind one that does not fit, the longest one that fits.
func filling(l []int, octets int) int {
	most := 0
	for k := range len(l) + 1 {
		if n, e := measured(l[:k]); e == api.OK && n <= octets {
			most = k
		}
	}
	return most
}

// wantEncode checks both results of Encode, and that Length says the same.
func wantEncode(t *testing.T, l []string, want string, wantErr api.Errno) {
	t.Helper()
	s, e := Encode(l)
	if s != want || e != wantErr {
		t.Fatalf("Encode of %d frames with the lengths %d is %x with error %d, want %x with error %d", len(l), lengthsOf(l), s, e, want, wantErr)
	}
	n := len(want)
	if wantErr != api.OK {
		n = -1
	}
	wantLength(t, lengthsOf(l), n)
}

// wantLength checks the result of Length.
func wantLength(t *testing.T, l []int, want int) {
	t.Helper()
	if n := Length(l); n != want {
		t.Fatalf("Length of the %d numbers %d is %d, want %d", len(l), l, n, want)
	}
}

// wantFill checks the result of Fill.
func wantFill(t *testing.T, l []int, octets, want int) {
	t.Helper()
	if k := Fill(l, octets); k != want {
		t.Fatalf("Fill of the %d numbers %d and %d is %d, want %d", len(l), l, octets, k, want)
	}
}

// tryEncode compares Encode and Length with the chapter's rules, and returns the error.
func tryEncode(t *testing.T, l []string) api.Errno {
	t.Helper()
	n, e := measured(lengthsOf(l))
	s := ""
	if e == api.OK {
		if s = octetsOf(l); len(s) != n {
			t.Fatalf("the test computes %d octets for the lengths %d, and then %d", n, lengthsOf(l), len(s))
		}
	}
	wantEncode(t, l, s, e)
	return e
}

// randomFrame returns a frame, mostly a short one. Some are full of delimiters.
func randomFrame(r *rand.Rand) string {
	n := 1 + r.Intn(20)
	switch r.Intn(8) {
	case 0:
		n = 1 + r.Intn(longestFrame)
	case 1:
		n = 1 + r.Intn(300)
	case 2:
		s := strings.Repeat(delimiterOf(1+r.Intn(9)), 1+r.Intn(9))
		return s[r.Intn(4):]
	}
	b := make([]byte, n)
	r.Read(b)
	return string(b)
}

// randomList returns up to 64 frames, which together may be too long.
func randomList(r *rand.Rand) []string {
	most := []int{3, 10, 64}[r.Intn(3)]
	var l []string
	for range 1 + r.Intn(most) {
		l = append(l, randomFrame(r))
	}
	return l
}

// P17.1

func TestEncodeOfTheExample(t *testing.T) {
	l := []string{"abc", "d"}
	wantEncode(t, l, "\x03\x00\x17\x4eabc\x00\x01\x00\x3d\x4ed", api.OK)
	s, _ := Encode(l)
	if len(s) != 13 || s[8:12] != "\x01\x00\x3d\x4e" {
		t.Errorf("the example has %d octets, of which %x are at 8", len(s), s[8:12])
	}
}

func TestDelimiters(t *testing.T) {
	for n, want := range map[int]string{
		1:    "\x01\x00\x3d\x4e",
		2:    "\x02\x00\x02\x4e",
		3:    "\x03\x00\x17\x4e",
		4:    "\x04\x00\x7c\x4e",
		5:    "\x05\x00\x69\x4e",
		255:  "\xff\x00\xff\x4e",
		256:  "\x00\x01\x2f\x4e",
		2299: "\xfb\x08\x93\x4e",
		2300: "\xfc\x08\xf8\x4e",
	} {
		if s := delimiterOf(n); s != want {
			t.Errorf("the test expects the delimiter %x for %d octets, and computes %x", want, n, s)
		}
		wantEncode(t, sized(n), want+filled(n), api.OK)
	}
}

func TestEncodeOfNoFrames(t *testing.T) {
	wantEncode(t, nil, "", api.ErrNone)
	wantEncode(t, []string{}, "", api.ErrNone)
	wantEncode(t, sized(1, 2, 3)[:0], "", api.ErrNone)
}

func TestEncodeOfOneFrame(t *testing.T) {
	for n := 1; n <= longestFrame; n++ {
		data := filled(n)
		wantEncode(t, []string{data}, delimiterOf(n)+data, api.OK)
	}
}

func TestEncodeAllowsEveryOctet(t *testing.T) {
	for c := range 256 {
		octet := string([]byte{byte(c)})
		for n := 1; n <= 5; n++ {
			data := strings.Repeat(octet, n)
			wantEncode(t, []string{data}, delimiterOf(n)+data, api.OK)
			wantEncode(t, []string{data, octet}, filledUp(delimiterOf(n)+data)+delimiterOf(1)+octet, api.OK)
		}
	}
}

func TestEncodeOfEachRemainder(t *testing.T) {
	zeros := []string{"", "\x00\x00\x00", "\x00\x00", "\x00"}
	for n := 1; n <= 40; n++ {
		first := delimiterOf(n) + filled(n) + zeros[n%4]
		for m := 1; m <= 40; m++ {
			second := delimiterOf(m) + filled(m)
			// There are no zeros behind the last frame.
			wantEncode(t, sized(n, m), first+second, api.OK)
			wantEncode(t, sized(n, m, 1), first+second+zeros[m%4]+"\x01\x00\x3d\x4e"+filled(1), api.OK)
		}
	}
}

func TestEncodeKeepsTheOrder(t *testing.T) {
	a, b, c := "one", "\x00\x00\x00\x00", delimiterOf(1)+"x"
	for _, l := range [][]string{{a, b, c}, {c, b, a}, {b, b, a, c}, {a, a, a}, {c, c, c, c, c}} {
		want := ""
		for i, data := range l {
			s := delimiterOf(len(data)) + data
			if i < len(l)-1 {
				s = filledUp(s)
			}
			want += s
		}
		wantEncode(t, l, want, api.OK)
	}
}

func TestEncodeOfManyFrames(t *testing.T) {
	for n := 1; n <= 200; n++ {
		for _, length := range []int{1, 3, 4, 60, 124} {
			want := api.OK
			if n > 64 {
				want = api.ErrFull
			}
			if e := tryEncode(t, slices.Repeat(sized(length), n)); e != want {
				t.Errorf("Encode of %d frames of %d octets has the error %d, want %d", n, length, e, want)
			}
		}
	}
}

func TestEncodeOfImpossibleLengths(t *testing.T) {
	for n, want := range map[int]api.Errno{0: api.ErrRange, 1: api.OK, 2: api.OK, 2299: api.OK, 2300: api.OK, 2301: api.ErrRange, 2302: api.ErrRange, 65536: api.ErrRange, 65537: api.ErrRange, 1 << 20: api.ErrRange} {
		if e := tryEncode(t, sized(n)); e != want {
			t.Errorf("Encode of one frame of %d octets has the error %d, want %d", n, e, want)
		}
		for others := 1; others <= 6; others++ {
			for place := range others + 1 {
				l := slices.Insert(slices.Repeat(sized(5), others), place, filled(n))
				if e := tryEncode(t, l); e != want {
					t.Errorf("Encode of frames of the lengths %d has the error %d, want %d", lengthsOf(l), e, want)
				}
			}
		}
	}
}

// most is how lists end that have as many octets as possible.
func most(last ...int) []int {
	return append([]int{2300, 2300, 2300}, last...)
}

// limits are lists of lengths at and around the limit, with the octets of their aggregates.
var limits = []struct {
	lengths []int
	octets  int
	want    api.Errno
}{
	{most(1273), 8189, api.OK},
	{most(1274), 8190, api.OK},
	{most(1275), 8191, api.OK},
	{most(1276), 8192, api.OK},
	{most(1277), 8193, api.ErrLong},
	{most(1278), 8194, api.ErrLong},
	{most(2300), 9216, api.ErrLong},
	{[]int{1276, 2300, 2300, 2300}, 8192, api.OK},
	{[]int{1277, 2300, 2300, 2300}, 8196, api.ErrLong},
	{most(1, 1268), 8192, api.OK},
	{most(1, 1269), 8193, api.ErrLong},
	// Without the zeros between them these would have 8192 octets or fewer.
	{[]int{2299, 2300, 2300, 1276}, 8192, api.OK},
	{[]int{2299, 2300, 2300, 1277}, 8193, api.ErrLong},
	{[]int{2297, 2300, 2300, 1279}, 8195, api.ErrLong},
	{[]int{2300, 2300, 2297, 1277}, 8193, api.ErrLong},
	{[]int{2297, 2297, 2297, 1277}, 8193, api.ErrLong},
	{[]int{2297, 2297, 2297, 1276}, 8192, api.OK},
	{most(1, 1, 1261), 8193, api.ErrLong},
	{slices.Repeat([]int{124}, 64), 8192, api.OK},
	{append(slices.Repeat([]int{124}, 63), 125), 8193, api.ErrLong},
	{append([]int{125}, slices.Repeat([]int{124}, 63)...), 8196, api.ErrLong},
	{slices.Repeat([]int{121}, 64), 8189, api.OK},
	{append(slices.Repeat([]int{121}, 63), 124), 8192, api.OK},
	{append(slices.Repeat([]int{121}, 63), 125), 8193, api.ErrLong},
	{slices.Repeat([]int{125}, 64), 8445, api.ErrLong},
	{slices.Repeat([]int{125}, 62), 8181, api.OK},
	{slices.Repeat([]int{2300}, 64), 147456, api.ErrLong},
}

func TestEncodeAtTheLimit(t *testing.T) {
	for _, x := range limits {
		l := sized(x.lengths...)
		if n := len(octetsOf(l)); n != x.octets {
			t.Errorf("the test computes %d octets for %d, not %d", n, x.lengths, x.octets)
		}
		if e := tryEncode(t, l); e != x.want {
			t.Errorf("Encode of frames of the lengths %d has the error %d, want %d", x.lengths, e, x.want)
		}
	}
}

func TestEncodeAroundTheLimit(t *testing.T) {
	for n := 2280; n <= longestFrame+1; n++ {
		for m := 1270; m <= 1300; m++ {
			tryEncode(t, sized(n, 2300, 2300, m))
			tryEncode(t, sized(m, 2300, n, 2300))
		}
	}
}

func TestErrorsOfEncodeInTheirOrder(t *testing.T) {
	short, full, long := slices.Repeat([]int{1}, 64), slices.Repeat([]int{2300}, 64), most(2300)
	for _, x := range []struct {
		lengths []int
		want    api.Errno
	}{
		// Too many frames, one of which is not possible, or which together are too long.
		{append(slices.Clone(short), 0), api.ErrFull},
		{append(slices.Clone(short), 2301), api.ErrFull},
		{append([]int{0}, short...), api.ErrFull},
		{append([]int{2301}, short...), api.ErrFull},
		{slices.Insert(slices.Clone(short), 30, 0), api.ErrFull},
		{append(slices.Clone(full), 2300), api.ErrFull},
		{append(slices.Clone(full), 2301), api.ErrFull},
		{append([]int{0}, full...), api.ErrFull},
		{slices.Repeat([]int{0}, 65), api.ErrFull},
		{slices.Repeat([]int{9000}, 65), api.ErrFull},
		// A frame that is not possible among frames that together are too long.
		{append(slices.Clone(long), 0), api.ErrRange},
		{append(slices.Clone(long), 2301), api.ErrRange},
		{append([]int{0}, long...), api.ErrRange},
		{append([]int{2301}, long...), api.ErrRange},
		{slices.Insert(slices.Clone(long), 2, 0), api.ErrRange},
		{slices.Insert(slices.Clone(long), 2, 2301), api.ErrRange},
		{append(slices.Clone(full[1:]), 0), api.ErrRange},
		{append(slices.Clone(full[1:]), 2301), api.ErrRange},
		{[]int{8189}, api.ErrRange},
		{[]int{0}, api.ErrRange},
	} {
		if e := tryEncode(t, sized(x.lengths...)); e != x.want {
			t.Errorf("Encode of frames of the lengths %d has the error %d, want %d", x.lengths, e, x.want)
		}
	}
}

func TestEncodeOfRandomFrames(t *testing.T) {
	r := rand.New(rand.NewSource(1))
	found := map[api.Errno]int{}
	for range 5000 {
		l := randomList(r)
		for r.Intn(4) == 0 {
			l = slices.Insert(l, r.Intn(len(l)+1), filled([]int{0, 1, 2300, 2301}[r.Intn(4)]))
		}
		if r.Intn(5) == 0 {
			l = append(l, l...)
		}
		found[tryEncode(t, l)]++
	}
	for _, e := range []api.Errno{api.OK, api.ErrRange, api.ErrLong, api.ErrFull} {
		if found[e] < 50 {
			t.Errorf("Encode has the error %d only %d times", e, found[e])
		}
	}
}

// P17.3

func TestLengthOfTheExample(t *testing.T) {
	wantLength(t, []int{3, 1}, 13)
}

func TestLengthOfNoFrames(t *testing.T) {
	wantLength(t, nil, -1)
	wantLength(t, []int{}, -1)
	wantLength(t, []int{1, 2}[:0], -1)
}

// edges are the possible lengths at both limits, and numbers that are no possible lengths.
var edges = []int{
	1, 2, 3, 4, 5, 2297, 2298, 2299, 2300,
	0, -1, -2, -3, -4, -5, -255, -256, -2299, -2300, -2301, -8192, -65535, -65536, 2301, 2302, 2304, 8188, 8189, 65535, 65536, 65537,
	1<<32 - 1, 1 << 32, 1<<32 + 1, -1 << 32, 1<<62 + 1, -1 << 62, math.MaxInt32, math.MinInt32,
	math.MaxInt, math.MaxInt - 3, math.MaxInt - 4, math.MinInt, math.MinInt + 1, math.MinInt + 4,
}

func TestLengthOfOneNumber(t *testing.T) {
	for n := -9000; n <= 9000; n++ {
		want := -1
		if n >= 1 && n <= 2300 {
			want = n + 4
		}
		wantLength(t, []int{n}, want)
	}
}

func TestLengthOfImpossibleNumbers(t *testing.T) {
	for i, n := range edges {
		for others := range 5 {
			for place := range others + 1 {
				l := slices.Insert(slices.Repeat([]int{6}, others), place, n)
				want, e := measured(l)
				if (e == api.OK) != (i < 9) {
					t.Errorf("the test computes the error %d for %d", e, l)
				}
				wantLength(t, l, want)
			}
		}
	}
	// Sums of such numbers may be those of possible ones.
	for _, n := range edges {
		for _, m := range edges {
			want, _ := measured([]int{n, m})
			wantLength(t, []int{n, m}, want)
			want, _ = measured([]int{n, m, n})
			wantLength(t, []int{n, m, n}, want)
		}
	}
}

func TestLengthOfManyNumbers(t *testing.T) {
	wantLength(t, slices.Repeat([]int{1}, 63), 62*8+5)
	wantLength(t, slices.Repeat([]int{1}, 64), 63*8+5)
	wantLength(t, slices.Repeat([]int{4}, 64), 64*8)
	wantLength(t, slices.Repeat([]int{1}, 65), -1)
	wantLength(t, slices.Repeat([]int{4}, 65), -1)
	for n := range 200 {
		for _, length := range []int{0, 1, 4, 5, 124, 125, 128, 2300, 2301} {
			l := slices.Repeat([]int{length}, n)
			want, _ := measured(l)
			wantLength(t, l, want)
		}
	}
}

func TestLengthAtTheLimit(t *testing.T) {
	for _, x := range limits {
		want := x.octets
		if x.want != api.OK {
			want = -1
		}
		wantLength(t, x.lengths, want)
	}
}

func TestLengthAgreesWithEncode(t *testing.T) {
	long := filled(longestFrame + 20)
	r := rand.New(rand.NewSource(2))
	for range 5000 {
		var l []string
		var lengths []int
		for range r.Intn(6) + r.Intn(2)*r.Intn(80) {
			n := r.Intn(150)
			if r.Intn(5) == 0 {
				n = r.Intn(len(long) + 1)
			}
			l, lengths = append(l, long[:n]), append(lengths, n)
		}
		want := -1
		if s, e := Encode(l); e == api.OK {
			want = len(s)
		}
		wantLength(t, lengths, want)
	}
}

// P17.4

// extremes are numbers of octets that are not near the length of an aggregate.
var extremes = []int{math.MinInt, math.MinInt + 1, math.MinInt32, -8192, -13, -5, -4, -2, -1, 0, 1, 2, 3, 4, 8191, 8192, 8193, 8196, 1 << 20, math.MaxInt32, 1 << 32, 1<<32 + 5, math.MaxInt - 1, math.MaxInt}

// tryFill compares Fill with the chapter's rules for each length of a beginning of l, and around it.
func tryFill(t *testing.T, l []int) {
	t.Helper()
	asked := slices.Clone(extremes)
	for k := range l {
		if n, e := measured(l[:k+1]); e == api.OK {
			wantFill(t, l, n, k+1)
			wantFill(t, l, n-1, k)
			asked = append(asked, n-4, n-3, n-2, n+1, n+2, n+3, n+4)
		}
	}
	for _, octets := range asked {
		wantFill(t, l, octets, filling(l, octets))
	}
}

func TestFillOfNoFrames(t *testing.T) {
	for _, octets := range extremes {
		wantFill(t, nil, octets, 0)
		wantFill(t, []int{}, octets, 0)
		wantFill(t, []int{1, 2}[:0], octets, 0)
	}
}

func TestFillOfThreeFrames(t *testing.T) {
	// The beginnings have 7, 13 and 25 octets.
	for octets := -50; octets < 50; octets++ {
		want := 0
		switch {
		case octets >= 25:
			want = 3
		case octets >= 13:
			want = 2
		case octets >= 7:
			want = 1
		}
		wantFill(t, []int{3, 1, 5}, octets, want)
	}
}

func TestFillWithExtremes(t *testing.T) {
	for _, octets := range []int{math.MinInt, math.MinInt + 1, math.MinInt32, -8192, -7, -2, -1, 0, 1, 4, 6} {
		wantFill(t, []int{3, 1, 5}, octets, 0)
		wantFill(t, []int{0, 3}, octets, 0)
	}
	for _, octets := range []int{8192, 1 << 20, math.MaxInt32, 1 << 32, math.MaxInt - 1, math.MaxInt} {
		wantFill(t, []int{3, 1, 5}, octets, 3)
		wantFill(t, most(1276), octets, 4)
		wantFill(t, most(1277), octets, 3)
		wantFill(t, most(1277, 1), octets, 3)
	}
}

func TestFillOfImpossibleNumbers(t *testing.T) {
	for _, n := range edges[9:] {
		for _, octets := range []int{-1, 0, 100, mostOctets, math.MaxInt} {
			wantFill(t, []int{n}, octets, 0)
			wantFill(t, []int{n, 1, 1}, octets, 0)
			wantFill(t, []int{n, n, n}, octets, 0)
		}
		wantFill(t, []int{3, 1, n}, 12, 1)
		for _, octets := range []int{13, 100, math.MaxInt} {
			wantFill(t, []int{3, n, 1}, octets, 1)
			wantFill(t, []int{3, 1, n}, octets, 2)
		}
	}
	for _, n := range edges {
		for others := range 6 {
			for place := range others + 1 {
				tryFill(t, slices.Insert(slices.Repeat([]int{6}, others), place, n))
			}
		}
	}
}

func TestFillOfManyNumbers(t *testing.T) {
	for n := range 130 {
		l := slices.Repeat([]int{1}, n)
		wantFill(t, l, math.MaxInt, min(n, 64))
		wantFill(t, l, 63*8+5, min(n, 64))
		wantFill(t, l, 63*8+4, min(n, 63))
		tryFill(t, l)
	}
	for _, length := range []int{4, 124, 125, 128, 2300, 2301} {
		for _, n := range []int{3, 4, 63, 64, 65, 100} {
			tryFill(t, slices.Repeat([]int{length}, n))
		}
	}
	for _, last := range []int{-1, 0, 1, 2301} {
		tryFill(t, append(slices.Repeat([]int{1}, 64), last))
		tryFill(t, append(slices.Repeat([]int{1}, 63), last))
	}
}

func TestFillAtTheLimit(t *testing.T) {
	for _, x := range limits {
		tryFill(t, x.lengths)
	}
}

func TestFillOfRandomNumbers(t *testing.T) {
	r := rand.New(rand.NewSource(3))
	for range 400 {
		var l []int
		for range r.Intn(90) {
			n := 1 + r.Intn(12)
			switch r.Intn(100) {
			case 0:
				n = edges[r.Intn(len(edges))]
			case 1, 2, 3:
				n = 1 + r.Intn(longestFrame)
			}
			l = append(l, n)
		}
		tryFill(t, l)
	}
}

// R5

// roomy is a copy of l whose slice has room for more elements; what lies there is returned as well.
func roomy[T any](l []T, behind ...T) (copied, room []T) {
	b := append(slices.Clone(l), behind...)
	return b[:len(l)], b[len(l):]
}

func TestArgumentsAreNotModified(t *testing.T) {
	lists := [][]int{nil, {0}, {3, 1}, {1, 2301, 5}, {0, 0}, most(1276), most(2300), slices.Repeat([]int{7}, 64), slices.Repeat([]int{7}, 65), {8, 2, 3, 1}}
	for _, lengths := range lists {
		l := sized(lengths...)
		given, room := roomy(l, "behind", "the", "end")
		numbers, spare := roomy(lengths, 11, 12, 13)
		for range 2 {
			tryEncode(t, given)
			want, _ := measured(lengths)
			wantLength(t, numbers, want)
			wantFill(t, numbers, 100, filling(lengths, 100))
			wantFill(t, numbers, math.MaxInt, filling(lengths, math.MaxInt))
			if !slices.Equal(given, l) || !slices.Equal(room, []string{"behind", "the", "end"}) {
				t.Fatalf("Encode changes its list of the lengths %d, or what lies behind it", lengths)
			}
			if !slices.Equal(numbers, lengths) || !slices.Equal(spare, []int{11, 12, 13}) {
				t.Fatalf("Length or Fill changes the list %d, or what lies behind it", lengths)
			}
		}
	}
}

// R1

func TestEveryCallReturns(t *testing.T) {
	many := slices.Repeat(sized(longestFrame), 1<<18)
	wantEncode(t, many, "", api.ErrFull)
	wantEncode(t, slices.Repeat([]string{""}, 1<<18), "", api.ErrFull)
	wantEncode(t, sized(1<<24), "", api.ErrRange)
	for _, n := range edges {
		l := slices.Repeat([]int{n}, 1<<18)
		wantLength(t, l, -1)
		for _, octets := range extremes {
			wantFill(t, l, octets, filling(l[:65], octets))
		}
	}
}

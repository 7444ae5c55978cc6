package train

import (
	"math/rand"
	"slices"
	"strings"
	"testing"

	"airtime/api"
)

// decoded is what the chapter says of Decode.
func decoded(s string) []Car {
	var l []Car
	for at := 0; at+4 <= len(s) && len(l) < mostFrames; {
		n := int(s[at]) + 256*int(s[at+1])
		end := at + 4 + n
		if n < 1 || n > longestFrame || s[at:at+4] != delimiterOf(n) || end > len(s) {
			at += 4
			continue
		}
		l = append(l, Car{At: at + 4, Data: s[at+4 : end]})
		for at = end; at%4 != 0; {
			at++
		}
	}
	return l
}

// carsOf are the frames of the aggregate of l, at which Decode finds them behind this many octets.
func carsOf(before int, l ...string) []Car {
	var cars []Car
	octets := 0
	for _, data := range l {
		for octets%4 != 0 {
			octets++
		}
		cars = append(cars, Car{At: before + octets + 4, Data: data})
		octets += 4 + len(data)
	}
	return cars
}

// wantDecode checks the result of Decode.
func wantDecode(t *testing.T, s string, want []Car) {
	t.Helper()
	if l := Decode(s); !slices.Equal(l, want) {
		t.Fatalf("Decode(%x) is %x, want %x", s, l, want)
	}
}

// tryDecode compares Decode with the chapter's rules, and returns the number of frames.
func tryDecode(t *testing.T, s string) int {
	t.Helper()
	want := decoded(s)
	wantDecode(t, s, want)
	orderly(t, s)
	return len(want)
}

// orderly checks that frames that are found ascend, do not overlap, and are preceded by their delimiters.
func orderly(t *testing.T, s string) {
	t.Helper()
	end := 0
	for _, c := range Decode(s) {
		if c.At%4 != 0 || c.At-4 < end || len(c.Data) < 1 || len(c.Data) > longestFrame {
			t.Fatalf("in %x there is a frame of %d octets at %d behind one that ends at %d", s, len(c.Data), c.At, end)
		}
		end = c.At + len(c.Data)
		if end > len(s) || s[c.At:end] != c.Data || s[c.At-4:c.At] != delimiterOf(len(c.Data)) {
			t.Fatalf("in %x there is no frame %x at %d", s, c.Data, c.At)
		}
	}
}

// samples are lists of frames that fit, in whose octets there are no delimiters.
func samples() [][]string {
	return [][]string{
		{"abc", "d"}, sized(1), sized(2), sized(3), sized(4), sized(5), sized(1, 2, 3, 4, 5, 6, 7, 8), sized(8, 7, 6, 5), sized(4, 4, 4), sized(1, 1),
		sized(2300), sized(2297, 3), sized(3, 2299, 1), sized(200, 300, 1), {"\x00", "\x00\x00\x00\x00", "\xff"}, slices.Repeat(sized(9), 20),
	}
}

// P17.2

func TestDecodeOfTheExample(t *testing.T) {
	s := "\x03\x00\x17\x4eabc\x00\x01\x00\x3d\x4ed"
	wantDecode(t, s, []Car{{4, "abc"}, {12, "d"}})
	wantDecode(t, s[:12], []Car{{4, "abc"}})
	wantDecode(t, s[8:], []Car{{4, "d"}})
	wantDecode(t, s[4:], []Car{{8, "d"}})
}

func TestDecodeOfFewOctets(t *testing.T) {
	wantDecode(t, "", nil)
	for c := range 256 {
		for n := 1; n <= 4; n++ {
			wantDecode(t, strings.Repeat(string([]byte{byte(c)}), n), nil)
		}
	}
	for n := range 5 {
		wantDecode(t, "\x01\x00\x3d\x4e"[:n], nil)
		wantDecode(t, "\xfc\x08\xf8\x4e"[:n], nil)
		wantDecode(t, "\x00\x00\x28\x4e"[:n], nil)
	}
	wantDecode(t, "\x01\x00\x3d\x4ea", []Car{{4, "a"}})
	wantDecode(t, "\x02\x00\x02\x4ea", nil)
}

func TestDecodeOfEachBeginning(t *testing.T) {
	for _, l := range samples() {
		s := octetsOf(l)
		for n := range len(s) + 1 {
			// There are exactly the frames of which no octet is missing.
			var want []Car
			for _, c := range carsOf(0, l...) {
				if c.At+len(c.Data) <= n {
					want = append(want, c)
				}
			}
			wantDecode(t, s[:n], want)
		}
	}
}

func TestDecodeBehindOctets(t *testing.T) {
	for _, l := range samples() {
		s := octetsOf(l)
		for n := range 70 {
			var want []Car
			if n%4 == 0 {
				want = carsOf(n, l...)
			}
			for _, octet := range []string{"\x00", "x", "\xff", "\x4e"} {
				wantDecode(t, strings.Repeat(octet, n)+s, want)
			}
		}
	}
}

func TestDecodeBeforeOctets(t *testing.T) {
	for _, l := range samples() {
		s := octetsOf(l)
		for n := range 70 {
			for _, octet := range []string{"\x00", "x", "\xff", "\x4e"} {
				wantDecode(t, s+strings.Repeat(octet, n), carsOf(0, l...))
			}
		}
		wantDecode(t, filledUp(s)+octetsOf(l), append(carsOf(0, l...), carsOf(len(filledUp(s)), l...)...))
		more := filledUp(s + "\x00")
		wantDecode(t, more+"\x01\x00\x3d\x4ez", append(carsOf(0, l...), Car{len(more) + 4, "z"}))
	}
}

func TestDecodeOfOtherOctetsBetweenFrames(t *testing.T) {
	// What stands between a frame and the next delimiter is not looked at, even if it looks like one.
	wantDecode(t, delimiterOf(1)+"a"+"xyz"+delimiterOf(2)+"bc", []Car{{4, "a"}, {12, "bc"}})
	wantDecode(t, delimiterOf(2)+"ab"+"\x4e\x4e"+delimiterOf(3)+"cde", []Car{{4, "ab"}, {12, "cde"}})
	wantDecode(t, delimiterOf(3)+"abc"+"\xff"+delimiterOf(1)+"d", []Car{{4, "abc"}, {12, "d"}})
	wantDecode(t, delimiterOf(1)+"a"+"xyz"+"wxyz"+"wxyz"+delimiterOf(2)+"bc", []Car{{4, "a"}, {20, "bc"}})
	// The search goes on at the next multiple of 4 and not at the end of a frame.
	wantDecode(t, delimiterOf(1)+"a"+delimiterOf(2)+"bc", []Car{{4, "a"}})
	wantDecode(t, delimiterOf(3)+"abc"+delimiterOf(2)+"bcd", []Car{{4, "abc"}})
	wantDecode(t, delimiterOf(2)+"ab"+delimiterOf(2)+"cd"+delimiterOf(1)+"e", []Car{{4, "ab"}, {16, "e"}})
}

func TestDecodeOfChangedDelimiters(t *testing.T) {
	for _, n := range []int{1, 2, 8, 255, 256, 1000, 2300} {
		s := delimiterOf(n) + filled(n)
		for i := range 4 {
			for c := range 256 {
				if byte(c) == s[i] {
					continue
				}
				changed := s[:i] + string([]byte{byte(c)}) + s[i+1:]
				wantDecode(t, changed, nil)
				// Those behind it are found, also if the changed length would extend beyond them.
				rest := octetsOf(sized(3, 6))
				wantDecode(t, filledUp(changed)+rest, carsOf(len(filledUp(changed)), sized(3, 6)...))
				wantDecode(t, octetsOf(sized(3, 6, 8))+changed, carsOf(0, sized(3, 6, 8)...))
			}
		}
	}
}

func TestDecodeOfEachOctetInEachPlace(t *testing.T) {
	for _, l := range [][]string{{"abc", "d"}, sized(1, 2, 3, 4), sized(9), {delimiterOf(1) + "abcd", delimiterOf(4)}, {"\x00\x00\x00\x00", "\x4e\x4e\x4e"}} {
		s := octetsOf(l)
		for i := range len(s) {
			for c := range 256 {
				octet := string([]byte{byte(c)})
				tryDecode(t, s[:i]+octet+s[i+1:])
				tryDecode(t, s[:i]+octet+s[i:])
			}
			tryDecode(t, s[:i]+s[i+1:])
		}
	}
}

func TestDecodeOfEachLength(t *testing.T) {
	behind := strings.Repeat("x", 70000)
	for n := range 65536 {
		d := delimiterOf(n)
		var want []Car
		if n >= 1 && n <= 2300 {
			want = []Car{{4, behind[:n]}}
		}
		wantDecode(t, d+behind[:min(n, 2400)], want)
	}
	// All octets of which these lengths tell are there.
	for _, n := range []int{0, 2301, 2302, 4096, 8192, 65535} {
		wantDecode(t, delimiterOf(n)+behind, nil)
		wantDecode(t, delimiterOf(n)+octetsOf(sized(5, 6))+behind, carsOf(4, sized(5, 6)...))
	}
	wantDecode(t, "\x00\x00\x28\x4e"+behind, nil)
	wantDecode(t, "\xfd\x08\xed\x4e"+behind, nil)
	wantDecode(t, "\xff\xff\x0c\x4e"+behind, nil)
	wantDecode(t, "\x01\x00\x3d\x4e"+behind, []Car{{4, "x"}})
	wantDecode(t, "\xfc\x08\xf8\x4e"+behind, []Car{{4, behind[:2300]}})
}

func TestDecodeOfOneOctetFewer(t *testing.T) {
	for n := 1; n <= longestFrame; n++ {
		s := delimiterOf(n) + filled(n)
		wantDecode(t, s, []Car{{4, filled(n)}})
		wantDecode(t, s[:len(s)-1], nil)
		wantDecode(t, "abcd"+s, []Car{{8, filled(n)}})
		wantDecode(t, "abcd"+s[:len(s)-1], nil)
	}
	// The search goes on inside of what would have been the frame.
	wantDecode(t, delimiterOf(8)+delimiterOf(3)+"abc", []Car{{8, "abc"}})
	wantDecode(t, delimiterOf(7)+delimiterOf(3)+"abc", []Car{{4, delimiterOf(3) + "abc"}})
	wantDecode(t, delimiterOf(2300)+delimiterOf(100)+delimiterOf(1)+"a", []Car{{12, "a"}})
}

func TestDecodeOfDelimitersInsideOfFrames(t *testing.T) {
	inner := octetsOf([]string{"abc", "defg"})
	wantDecode(t, delimiterOf(len(inner))+inner, []Car{{4, inner}})
	wantDecode(t, octetsOf([]string{inner, inner}), carsOf(0, inner, inner))
	// Behind a broken delimiter they are found.
	for _, broken := range []string{"\x00\x00\x00\x00", delimiterOf(len(inner))[:3] + "\x4f", delimiterOf(0), delimiterOf(2301), delimiterOf(2300), "\x01\x00\x3d\x4d", "\x01\x00\x3c\x4e"} {
		wantDecode(t, broken+inner, carsOf(4, "abc", "defg"))
		wantDecode(t, broken+broken+broken+inner, carsOf(12, "abc", "defg"))
	}
	// A delimiter inside of such a frame may tell of more than the frame has.
	greedy := "wxyz" + delimiterOf(20) + "abcdefgh"
	l := []string{greedy, "second", "third"}
	s := octetsOf(l)
	wantDecode(t, s, carsOf(0, l...))
	wantDecode(t, "\x00"+s[1:], []Car{{12, s[12:32]}, carsOf(0, l...)[2]})
}

func TestDecodeAtOtherPositions(t *testing.T) {
	for n := 1; n < 40; n++ {
		s := strings.Repeat("x", n) + delimiterOf(6) + "abcdef"
		var want []Car
		if n%4 == 0 {
			want = []Car{{n + 4, "abcdef"}}
		}
		wantDecode(t, s, want)
	}
}

func TestDecodeOfManyFrames(t *testing.T) {
	for n := 1; n <= 130; n++ {
		for _, length := range []int{1, 3, 4, 200} {
			l := slices.Repeat(sized(length), n)
			s := octetsOf(l)
			wantDecode(t, s, carsOf(0, l[:min(n, 64)]...))
			wantDecode(t, "abcdefgh"+s+"\x00\x00\x00\x00", carsOf(8, l[:min(n, 64)]...))
		}
	}
	// What stands between frames does not count as one.
	s, want := "", []Car(nil)
	for range 70 {
		s += delimiterOf(0) + delimiterOf(2301) + delimiterOf(2) + "abcd"
		if want = append(want, Car{len(s) - 4, "ab"}); len(want) <= 64 {
			wantDecode(t, s, want)
			continue
		}
		wantDecode(t, s, want[:64])
	}
}

func TestDecodeOfManyOctets(t *testing.T) {
	l := sized(2300, 2299, 2298, 2297, 1, 2300, 2300)
	s := octetsOf(l)
	if len(s) <= mostOctets {
		t.Fatal("the test has only", len(s), "octets")
	}
	wantDecode(t, s, carsOf(0, l...))
	all := slices.Repeat(sized(2300), 64)
	wantDecode(t, octetsOf(all), carsOf(0, all...))
	for _, n := range []int{8188, 8192, 8196, 65536, 1 << 20} {
		wantDecode(t, strings.Repeat("x", n)+s, carsOf(n, l...))
		wantDecode(t, strings.Repeat("x", n+1)+s, nil)
	}
}

// randomOctets returns pieces of which many are delimiters, right or broken.
func randomOctets(r *rand.Rand) string {
	s := ""
	for range r.Intn(40) {
		d := delimiterOf(1 + r.Intn(40))
		switch r.Intn(10) {
		case 0:
			d = delimiterOf(r.Intn(65536))
		case 1:
			b := []byte(d)
			b[r.Intn(4)] ^= 1 << r.Intn(8)
			d = string(b)
		case 2:
			d = d[:r.Intn(4)]
		case 3:
			d = string([]byte{byte(r.Intn(5)), 0, byte(r.Intn(256)), 0x4e})
		}
		s += d + filled(r.Intn(20))
		if r.Intn(3) > 0 {
			s = filledUp(s)
		}
	}
	return s
}

func TestDecodeOfRandomOctets(t *testing.T) {
	r := rand.New(rand.NewSource(4))
	found := 0
	for range 30000 {
		found += tryDecode(t, randomOctets(r))
	}
	for range 30000 {
		s := make([]byte, r.Intn(60))
		r.Read(s)
		tryDecode(t, string(s))
	}
	if found < 30000 {
		t.Errorf("only %d frames are found", found)
	}
}

// P17.5

func TestDecodeOfWhatEncodeReturns(t *testing.T) {
	r := rand.New(rand.NewSource(5))
	accepted := 0
	for range 5000 {
		l := randomList(r)
		s, e := Encode(l)
		if e != api.OK {
			continue
		}
		accepted++
		wantDecode(t, s, carsOf(0, l...))
	}
	if accepted < 3000 {
		t.Errorf("only %d lists fit", accepted)
	}
	lists := samples()
	for _, x := range limits {
		if x.want == api.OK {
			lists = append(lists, sized(x.lengths...))
		}
	}
	for _, l := range lists {
		s, e := Encode(l)
		if e != api.OK {
			t.Fatalf("Encode of frames of the lengths %d has the error %d", lengthsOf(l), e)
		}
		wantDecode(t, s, carsOf(0, l...))
	}
}

// damage changes octets of the aggregate of l: those between frames, those of the frames for which lost is true, and all of what is behind the last other one, and its delimiters. It returns the frames that must still be found.
func damage(r *rand.Rand, l []string, lost []bool) (string, []Car) {
	s := []byte(octetsOf(l))
	fixed := make([]bool, len(s))
	last := len(l) - 1
	for last >= 0 && lost[last] {
		last--
	}
	var want []Car
	for i, c := range carsOf(0, l...) {
		for k := range 4 {
			fixed[c.At-4+k] = i <= last
		}
		if lost[i] {
			continue
		}
		want = append(want, c)
		for k := range len(c.Data) {
			fixed[c.At+k] = true
		}
	}
	delimiter := delimiterOf(1 + r.Intn(20))
	for i := range s {
		switch {
		case fixed[i]:
		case r.Intn(2) == 0:
			s[i] = byte(r.Intn(256))
		default:
			// Whole delimiters are among what is changed.
			s[i] = delimiter[i%4]
		}
	}
	return string(s), want
}

func TestIntactFramesAreFound(t *testing.T) {
	r := rand.New(rand.NewSource(6))
	kept := 0
	for range 5000 {
		l := randomList(r)
		lost := make([]bool, len(l))
		for i := range lost {
			lost[i] = r.Intn(3) == 0
		}
		s, want := damage(r, l, lost)
		found := Decode(s)
		for _, c := range want {
			if !slices.Contains(found, c) {
				t.Fatalf("the frame %x at %d is intact in %x, but only %x are found", c.Data, c.At, s, found)
			}
		}
		kept += len(want)
		tryDecode(t, s)
	}
	if kept < 20000 {
		t.Errorf("only %d frames are intact", kept)
	}
}

func TestFramesBehindABrokenDelimiterAreFound(t *testing.T) {
	// Without delimiters in the octets of the frames, a broken delimiter loses no other frame.
	l := sized(1, 6, 3, 20, 8, 2300, 7)
	s, cars := octetsOf(l), carsOf(0, l...)
	for i, c := range cars {
		for k := c.At - 4; k < c.At; k++ {
			for bit := range 8 {
				b := []byte(s)
				b[k] ^= 1 << bit
				wantDecode(t, string(b), slices.Delete(slices.Clone(cars), i, i+1))
			}
		}
	}
}

// P17.6

func TestFoundFramesAreOrderly(t *testing.T) {
	r := rand.New(rand.NewSource(7))
	for range 20000 {
		s := randomOctets(r)
		orderly(t, s)
		if len(s) > 0 {
			orderly(t, s[r.Intn(len(s)):])
		}
	}
	for range 3000 {
		orderly(t, octetsOf(randomList(r)))
	}
	for _, d := range []string{delimiterOf(1), delimiterOf(3), delimiterOf(4), delimiterOf(5), delimiterOf(12)} {
		for n := range 300 {
			orderly(t, strings.Repeat(d, n)+"abc")
		}
	}
}

// R5

func TestResultsAreNewMemory(t *testing.T) {
	for _, l := range samples() {
		s := octetsOf(l)
		first, second := Decode(s), Decode(s)
		clear(first[:cap(first)])
		if !slices.Equal(second, carsOf(0, l...)) {
			t.Fatal("two results of Decode share memory")
		}
		wantDecode(t, s, carsOf(0, l...))
	}
}

// R1

func TestDecodeReturns(t *testing.T) {
	for c := range 256 {
		for n := range 100 {
			wantDecode(t, strings.Repeat(string([]byte{byte(c)}), n), nil)
		}
		wantDecode(t, strings.Repeat(string([]byte{byte(c)}), 1<<16), nil)
	}
	for n := 1; n < 4; n++ {
		// Each place has a delimiter that tells of too many octets.
		tryDecode(t, strings.Repeat(delimiterOf(2300), 574)+strings.Repeat("x", n))
	}
	tryDecode(t, strings.Repeat(delimiterOf(4), 1<<18))
}

package checksum

import (
	"math/rand"
	"strings"
	"testing"

	"airtime/api"
)

// steps takes the register of the CRC-32 through the octets of s, one bit after the other, as the chapter defines it.
func steps(register uint32, s string) uint32 {
	for i := 0; i < len(s); i++ {
		register ^= uint32(s[i])
		for range 8 {
			out := register & 1
			register >>= 1
			if out == 1 {
				register ^= 0xedb88320
			}
		}
	}
	return register
}

// defined32 is the CRC-32 as the chapter defines it.
func defined32(s string) uint32 {
	return steps(0xffffffff, s) ^ 0xffffffff
}

// defined8 is the CRC-8 as the chapter defines it.
func defined8(s string) uint8 {
	register := uint8(0xff)
	for i := 0; i < len(s); i++ {
		register ^= s[i]
		for range 8 {
			out := register >> 7
			register <<= 1
			if out == 1 {
				register ^= 0x07
			}
		}
	}
	return register ^ 0xff
}

// octets returns n octets that r draws.
func octets(r *rand.Rand, n int) string {
	b := make([]byte, n)
	r.Read(b)
	return string(b)
}

// samples returns the empty string, every single octet, ordinary strings and strings of all lengths up to 300; it is the same list in every run.
func samples() []string {
	r := rand.New(rand.NewSource(3))
	l := []string{"", "a", "ab", "abc", "1234", "56789", "123456789", "a packet of the upper layer", "äöü", "\xff\xfe\xfd", "\x80", "\n\r\t"}
	for i := range 256 {
		l = append(l, string([]byte{byte(i)}))
	}
	for n := range 301 {
		l = append(l, octets(r, n), strings.Repeat("\x00", n), strings.Repeat("\xff", n))
	}
	return l
}

// long returns strings that are longer than any frame.
func long() []string {
	r := rand.New(rand.NewSource(4))
	return []string{
		octets(r, api.MaxTrain), octets(r, 1<<16), octets(r, 1<<20+3),
		strings.Repeat("\x00", 1<<20), strings.Repeat("\xff", 1<<20), strings.Repeat("airtime", 1<<17),
	}
}

// sums are the values at the ends of the range, all single bits, their complements, and others.
func sums() []uint32 {
	r := rand.New(rand.NewSource(5))
	l := []uint32{0, 1, 0xffffffff, 0xfffffffe, 0x80000000, 0x7fffffff, 0xedb88320, 0xcbf43926, 0x04c11db7, 0xdebb20e3}
	for i := range 32 {
		l = append(l, 1<<i, ^uint32(1<<i))
	}
	for range 200 {
		l = append(l, r.Uint32())
	}
	return l
}

// flip returns s with the bit of the number n changed; the bits are numbered in the order of transmission.
func flip(s string, n int) string {
	b := []byte(s)
	b[n/8] ^= 1 << (n % 8)
	return string(b)
}

// burst returns s with those bits changed that are 1 in pattern, the least significant one of which stands for the bit with the number n.
func burst(s string, n int, pattern uint32) string {
	for i := range 32 {
		if pattern>>i&1 == 1 {
			s = flip(s, n+i)
		}
	}
	return s
}

// opens fails the test unless Open of s gives exactly this.
func opens(t *testing.T, s, want string, wantErr api.Errno) {
	t.Helper()
	if x, e := Open(s); x != want || e != wantErr {
		t.Errorf("Open(%s) = %s, %d, want %s, %d", brief(s), brief(x), e, brief(want), wantErr)
	}
}

// brief returns s in hexadecimal, cut off if it is long.
func brief(s string) string {
	const digits = "0123456789abcdef"
	var b strings.Builder
	for i := 0; i < min(len(s), 40); i++ {
		b.WriteByte(digits[s[i]>>4])
		b.WriteByte(digits[s[i]&15])
	}
	if len(s) > 40 {
		b.WriteString("..")
	}
	return `"` + b.String() + `"`
}

// P3.1

func TestSum32OfKnownStrings(t *testing.T) {
	for _, c := range []struct {
		s    string
		want uint32
	}{
		{"", 0},
		{"123456789", 0xcbf43926},
		{"a", 0xe8b7be43},
		{"abc", 0x352441c2},
		{"\x00", 0xd202ef8d},
		{"\xff", 0xff000000},
		{"\x00\x00\x00\x00", 0x2144df1c},
		{"\xff\xff\xff\xff", 0xffffffff},
		{strings.Repeat("\x00", 32), 0x190a55ad},
		{strings.Repeat("\xff", 32), 0xff6cab0b},
		{"The quick brown fox jumps over the lazy dog", 0x414fa339},
	} {
		if n := Sum32(c.s); n != c.want {
			t.Errorf("Sum32(%s) = %08x, want %08x", brief(c.s), n, c.want)
		}
	}
}

func TestSum32IsDefinedStepByStep(t *testing.T) {
	for _, s := range append(samples(), long()...) {
		if n := Sum32(s); n != defined32(s) {
			t.Errorf("Sum32(%s), %d octets, = %08x, want %08x", brief(s), len(s), n, defined32(s))
		}
	}
}

func TestSum32OfTwoOctets(t *testing.T) {
	for i := range 1 << 16 {
		s := string([]byte{byte(i), byte(i >> 8)})
		if n := Sum32(s); n != defined32(s) {
			t.Errorf("Sum32(%s) = %08x, want %08x", brief(s), n, defined32(s))
		}
	}
}

// P3.2

func TestAdd32OfKnownStrings(t *testing.T) {
	for _, c := range []struct {
		sum  uint32
		s    string
		want uint32
	}{
		{0x9be3e0a3, "56789", 0xcbf43926}, // the CRC-32 of 1234
		{0, "", 0},
		{0, "123456789", 0xcbf43926},
		{0xcbf43926, "", 0xcbf43926},
		{0xffffffff, "", 0xffffffff},
		{0xffffffff, "\x00", 0xffffffff}, // the register is 0 and stays 0
		{0xffffffff, "\x01", 0x77073096 ^ 0xffffffff},
		{0xffffffff, "\x80", 0xedb88320 ^ 0xffffffff},
	} {
		if n := Add32(c.sum, c.s); n != c.want {
			t.Errorf("Add32(%08x, %s) = %08x, want %08x", c.sum, brief(c.s), n, c.want)
		}
	}
	if n := Add32(Sum32("1234"), "56789"); n != 0xcbf43926 {
		t.Errorf("Add32 of the sum of 1234 and 56789 = %08x", n)
	}
}

func TestAdd32IsDefinedStepByStepForEverySum(t *testing.T) {
	strs := []string{"", "\x00", "\x01", "\x80", "\xff", "56789", "\x00\x00\x00\x00", "\xff\xff\xff\xff", "a packet of the upper layer"}
	for _, sum := range sums() {
		for _, s := range strs {
			want := steps(sum^0xffffffff, s) ^ 0xffffffff
			if n := Add32(sum, s); n != want {
				t.Errorf("Add32(%08x, %s) = %08x, want %08x", sum, brief(s), n, want)
			}
		}
	}
}

func TestAdd32OfEverySample(t *testing.T) {
	for _, s := range append(samples(), long()...) {
		for _, sum := range []uint32{0, 1, 0x80000000, 0x12345678, 0xffffffff} {
			want := steps(sum^0xffffffff, s) ^ 0xffffffff
			if n := Add32(sum, s); n != want {
				t.Errorf("Add32(%08x, %s), %d octets, = %08x, want %08x", sum, brief(s), len(s), n, want)
			}
		}
	}
}

func TestAdd32OfNothingIsTheSum(t *testing.T) {
	for _, sum := range sums() {
		if n := Add32(sum, ""); n != sum {
			t.Errorf("Add32(%08x, \"\") = %08x", sum, n)
		}
	}
}

// P3.3

func TestSum8OfKnownStrings(t *testing.T) {
	for _, c := range []struct {
		s    string
		want uint8
	}{
		{"", 0},
		{"\x00", 0x0c},
		{"\xff", 0xff},
		{"\xfe", 0xf8},
		{"\x7f", 0x76},
		{"123456789", 0x04},
	} {
		if n := Sum8(c.s); n != c.want {
			t.Errorf("Sum8(%s) = %02x, want %02x", brief(c.s), n, c.want)
		}
	}
}

func TestSum8IsDefinedStepByStep(t *testing.T) {
	for _, s := range append(samples(), long()...) {
		if n := Sum8(s); n != defined8(s) {
			t.Errorf("Sum8(%s), %d octets, = %02x, want %02x", brief(s), len(s), n, defined8(s))
		}
	}
}

func TestSum8OfTwoOctets(t *testing.T) {
	for i := range 1 << 16 {
		s := string([]byte{byte(i), byte(i >> 8)})
		if n := Sum8(s); n != defined8(s) {
			t.Errorf("Sum8(%s) = %02x, want %02x", brief(s), n, defined8(s))
		}
	}
}

// P3.4

func TestSealOfKnownStrings(t *testing.T) {
	for _, c := range []struct{ s, want string }{
		{"a", "a\x43\xbe\xb7\xe8"},
		{"", "\x00\x00\x00\x00"},
		{"123456789", "123456789\x26\x39\xf4\xcb"},
		{"\x00", "\x00\x8d\xef\x02\xd2"},
		{"\xff\xff\xff\xff", "\xff\xff\xff\xff\xff\xff\xff\xff"},
	} {
		if s := Seal(c.s); s != c.want {
			t.Errorf("Seal(%s) = %s, want %s", brief(c.s), brief(s), brief(c.want))
		}
	}
}

func TestSealAppendsTheSumLeastSignificantOctetFirst(t *testing.T) {
	for _, s := range append(samples(), long()...) {
		sum := defined32(s)
		want := s + string([]byte{byte(sum & 255), byte(sum / 256 & 255), byte(sum / 65536 & 255), byte(sum / 16777216)})
		if x := Seal(s); x != want {
			t.Errorf("Seal(%s), %d octets, = %s", brief(s), len(s), brief(x))
		}
	}
}

// P3.5

func TestOpenOfKnownStrings(t *testing.T) {
	opens(t, "\x00\x00\x00\x00", "", api.OK)
	opens(t, "a\x43\xbe\xb7\xe8", "a", api.OK)
	opens(t, "123456789\x26\x39\xf4\xcb", "123456789", api.OK)
	opens(t, strings.Repeat("\xff", 8), "\xff\xff\xff\xff", api.OK)

	opens(t, "a\xe8\xb7\xbe\x43", "", api.ErrSum)     // the most significant octet first
	opens(t, "b\x43\xbe\xb7\xe8", "", api.ErrSum)     // the sum of another string
	opens(t, "\x43\xbe\xb7\xe8a", "", api.ErrSum)     // the sum before the string
	opens(t, "\x43\xbe\xb7\xe8", "", api.ErrSum)      // the sum without its string
	opens(t, "a\x43\xbe\xb7\xe8\x00", "", api.ErrSum) // one octet too many
	opens(t, "a\x43\xbe\xb7", "", api.ErrSum)         // one octet too few
	opens(t, "aa\x43\xbe\xb7\xe8", "", api.ErrSum)
	opens(t, "a\xbc\x41\x48\x17", "", api.ErrSum) // the register without its last exclusive-or
}

func TestOpenOfFewerThanFourOctets(t *testing.T) {
	for _, s := range []string{"", "\x00", "\x00\x00", "\x00\x00\x00", "a", "ab", "abc", "\xff\xff\xff"} {
		opens(t, s, "", api.ErrShort)
	}
	for i := range 256 {
		for n := range 4 {
			opens(t, strings.Repeat(string([]byte{byte(i)}), n), "", api.ErrShort)
		}
	}
}

func TestOpenOfFourOctets(t *testing.T) {
	for i := range 1 << 12 {
		b := []byte{byte(i & 7), byte(i >> 3 & 7), byte(i >> 6 & 7), byte(i >> 9)}
		if i == 0 {
			opens(t, string(b), "", api.OK)
		} else {
			opens(t, string(b), "", api.ErrSum)
		}
	}
	for _, sum := range sums() {
		if sum != 0 {
			opens(t, string([]byte{byte(sum), byte(sum >> 8), byte(sum >> 16), byte(sum >> 24)}), "", api.ErrSum)
		}
	}
}

func TestOpenLooksAtAllFourOctetsOfTheSum(t *testing.T) {
	for _, s := range []string{"", "a", "123456789"} {
		sealed := []byte(Seal(s))
		for i := len(s); i < len(sealed); i++ {
			for change := 1; change < 256; change++ {
				sealed[i] ^= byte(change)
				opens(t, string(sealed), "", api.ErrSum)
				sealed[i] ^= byte(change)
			}
		}
		opens(t, string(sealed), s, api.OK)
	}
}

func TestOpenAcceptsOnlyWhatSealReturns(t *testing.T) {
	r := rand.New(rand.NewSource(6))
	for range 2000 {
		s := octets(r, 4+r.Intn(20))
		body := s[:len(s)-4]
		if Seal(body) == s {
			opens(t, s, body, api.OK)
		} else {
			opens(t, s, "", api.ErrSum)
		}
	}
}

// P3.6

func TestAStringInTwoPartsAtEveryPlace(t *testing.T) {
	for _, s := range samples() {
		for i := range len(s) + 1 {
			if n := Add32(Sum32(s[:i]), s[i:]); n != Sum32(s) {
				t.Errorf("Add32(Sum32(%s), %s) = %08x, want %08x", brief(s[:i]), brief(s[i:]), n, Sum32(s))
			}
		}
	}
	for _, s := range long() {
		for _, i := range []int{0, 1, 1 << 12, len(s) / 2, len(s) - 1, len(s)} {
			if n := Add32(Sum32(s[:i]), s[i:]); n != Sum32(s) {
				t.Errorf("Add32 of %d octets in parts of %d and %d = %08x, want %08x", len(s), i, len(s)-i, n, Sum32(s))
			}
		}
	}
}

func TestAStringInManyParts(t *testing.T) {
	r := rand.New(rand.NewSource(7))
	for _, s := range samples() {
		sum := Sum32("")
		for rest := s; rest != ""; {
			n := 1 + r.Intn(len(rest))
			sum = Add32(sum, rest[:n])
			rest = rest[n:]
		}
		if sum != Sum32(s) {
			t.Errorf("the sum of %s in parts is %08x, want %08x", brief(s), sum, Sum32(s))
		}
	}
}

func TestOpenOfSeal(t *testing.T) {
	for _, s := range append(samples(), long()...) {
		opens(t, Seal(s), s, api.OK)
		opens(t, Seal(Seal(s)), Seal(s), api.OK)
	}
}

// P3.7

// sealed are sealed octets of several lengths.
func sealed() []string {
	r := rand.New(rand.NewSource(8))
	l := []string{Seal(""), Seal("a"), Seal("\x00"), Seal("\xff\xff\xff\xff"), Seal("123456789"), Seal(strings.Repeat("\x00", 60))}
	for n := range 40 {
		l = append(l, Seal(octets(r, n)))
	}
	return l
}

func TestOneChangedBitIsDetected(t *testing.T) {
	for _, s := range append(sealed(), Seal(octets(rand.New(rand.NewSource(9)), api.MaxBody))) {
		for n := range 8 * len(s) {
			opens(t, flip(s, n), "", api.ErrSum)
		}
	}
}

func TestTwoChangedBitsAreDetected(t *testing.T) {
	for _, s := range sealed() {
		for n := range 8 * len(s) {
			for k := n + 1; k < min(n+32, 8*len(s)); k++ {
				opens(t, flip(flip(s, n), k), "", api.ErrSum)
			}
		}
	}
}

// bursts are patterns of up to 32 bits: two bits far apart, all, every other one, the polynomial of the CRC-32, others. Each has its first bit, so that a pattern at two places is two changes.
func bursts() []uint32 {
	r := rand.New(rand.NewSource(10))
	l := []uint32{0x80000001, 0xffffffff, 0x55555555, 0xedb88321, 0xdb710641, 0x7fffffff, 0x0000ffff, 3, 1}
	for range 30 {
		l = append(l, r.Uint32()|1, r.Uint32()|0x80000001)
	}
	return l
}

func TestChangedBitsWithin32AreDetected(t *testing.T) {
	for _, s := range sealed() {
		for n := range 8*len(s) - 31 {
			for _, pattern := range bursts() {
				opens(t, burst(s, n, pattern), "", api.ErrSum)
			}
		}
	}
}

func TestChangedBitsWithin32AreDetectedInLongStrings(t *testing.T) {
	r := rand.New(rand.NewSource(11))
	s := Seal(octets(r, api.MaxTrain))
	for range 2000 {
		opens(t, burst(s, r.Intn(8*len(s)-31), r.Uint32()|1), "", api.ErrSum)
	}
}

// With 33 consecutive bits, a change may go unnoticed: it shows that the bits are numbered as the chapter says.
func TestTheGeneratorIsNotDetected(t *testing.T) {
	for _, s := range sealed() {
		for n := range 8*len(s) - 32 {
			// The bits of the generator in the order of transmission: the term of the highest degree first.
			changed := flip(burst(s, n+1, 0xedb88320), n)
			opens(t, changed, changed[:len(s)-4], api.OK)
		}
	}
}

// P3.8

func TestOneOctetOfDifferenceChangesTheCRC8(t *testing.T) {
	for _, s := range samples() {
		if len(s) > 40 {
			continue
		}
		for i := range len(s) {
			seen := map[uint8]bool{}
			b := []byte(s)
			for v := range 256 {
				b[i] = byte(v)
				seen[Sum8(string(b))] = true
			}
			if len(seen) != 256 {
				t.Errorf("octet %d of %s gives only %d values of the CRC-8", i, brief(s), len(seen))
			}
		}
	}
}

func TestOneOctetOfDifferenceInLongStrings(t *testing.T) {
	r := rand.New(rand.NewSource(12))
	s := []byte(octets(r, api.MaxTrain))
	sum := Sum8(string(s))
	for range 2000 {
		i, change := r.Intn(len(s)), byte(1+r.Intn(255))
		s[i] ^= change
		if Sum8(string(s)) == sum {
			t.Errorf("octet %d, changed by %02x, leaves the CRC-8", i, change)
		}
		s[i] ^= change
	}
}

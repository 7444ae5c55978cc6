package frame

import (
	"encoding/binary"
	"hash/adler32"
	"hash/crc32"
	"math/rand"
	"strings"
	"testing"

	"airtime/api"
	"airtime/header"
	"airtime/wire"
)

// P12.3

// longest is the frame with the most octets that there is.
func longest() api.Frame {
	f := full(dataKind)
	f.Body = filledOctets(longestBody)
	return f
}

// longestFrame is the number of octets of the longest frame.
const longestFrame = 32 + longestBody + 4

// wantDecode checks the result of Decode: the frame, or no frame together with an error.
func wantDecode(t *testing.T, s string, want api.Frame, wantError api.Errno) {
	t.Helper()
	if f, e := Decode(s); f != want || e != wantError {
		t.Errorf("Decode(%s) = %#v, %d, want %#v, %d", brief(s), short(f), e, short(want), wantError)
	}
}

// wantError checks that Decode returns an error, and no frame.
func wantError(t *testing.T, s string, e api.Errno) {
	t.Helper()
	wantDecode(t, s, api.Frame{}, e)
}

// decoded is the result of Decode for octets under a right checksum, in the steps of the chapter.
func decoded(octets string) (api.Frame, api.Errno) {
	r := wire.NewReader(octets)
	f := header.Read(r)
	if r.Err() != api.OK {
		return api.Frame{}, r.Err()
	}
	if r.Left() > longestBody {
		return api.Frame{}, api.ErrLong
	}
	f.Body = r.Rest()
	if e := header.Check(f); e != api.OK {
		return api.Frame{}, e
	}
	return f, api.OK
}

func TestDecodeExamples(t *testing.T) {
	const ack = "\x0e\x00\x05\x00\x02\x00\x00\x00\x00\x01"
	wantDecode(t, seal(ack), api.Frame{Kind: api.KindAck, Duration: 5, To: nodeA}, api.OK)
	wantError(t, seal(ack+"x"), api.ErrForm)
	wantError(t, seal(ack+"\x00"), api.ErrForm)
	wantError(t, seal(ack)+"x", api.ErrSum)
	wantError(t, "x"+seal(ack), api.ErrSum)
	wantError(t, ack, api.ErrSum)
	wantError(t, seal(seal(ack)), api.ErrForm)
	// These four octets are the checksum of no octets.
	wantError(t, "\x00\x00\x00\x00", api.ErrShort)
}

// Octets of each length that are not sealed.
func TestDecodeOfEachLength(t *testing.T) {
	for n := range longestFrame + 2 {
		want := api.ErrSum
		if n < 4 {
			want = api.ErrShort
		}
		wantError(t, filledOctets(n), want)
		wantError(t, strings.Repeat("\x01", n), want)
		wantError(t, octetsOf(longest())[:min(n, longestFrame-1)], want)
	}
}

// The octets of a frame of each kind, with a body of each length, or cut off after each octet, and sealed.
func TestDecodeOfEachSealedLength(t *testing.T) {
	for kind := 1; kind <= kindCount; kind++ {
		f := full(kind)
		head := headerOf(f)
		for n := range head {
			wantError(t, seal(head[:n]), api.ErrShort)
		}
		body := filledOctets(longestBody + 2)
		for n := range len(body) + 1 {
			f.Body = body[:n]
			switch {
			case n > longestBody:
				wantError(t, octetsOf(f), api.ErrLong)
			case n > 0 && bodiless(kind):
				wantError(t, octetsOf(f), api.ErrForm)
			default:
				wantDecode(t, octetsOf(f), f, api.OK)
			}
		}
	}
	if n := len(octetsOf(longest())); n != longestFrame {
		t.Errorf("the longest frame has %d octets", n)
	}
}

func TestDecodeOfLongOctets(t *testing.T) {
	for kind := 1; kind <= kindCount; kind++ {
		for _, n := range []int{longestBody + 1, 2 * longestBody, 65536 - 36, 65536, 65537, 1 << 20} {
			wantError(t, seal(headerOf(full(kind))+filledOctets(n)), api.ErrLong)
			wantError(t, seal(headerOf(plain(kind))+strings.Repeat("\x00", n)), api.ErrLong)
		}
	}
}

// Checksums that are wrong, also where the octets before them are no frame.
func TestDecodeOfWrongChecksums(t *testing.T) {
	l := []string{"", "\x00", "\x0e", "\x63", "\x0e\x00\x00\x80\x02\x00\x00\x00\x00\x01"}
	for kind := 1; kind <= kindCount; kind++ {
		f := full(kind)
		l = append(l, headerOf(f)+f.Body, headerOf(f)+"x", headerOf(f)+filledOctets(longestBody+1))
	}
	for _, octets := range l {
		sum := crc32.ChecksumIEEE([]byte(octets))
		for _, other := range []uint32{sum + 1, sum - 1, ^sum, sum ^ 1<<31, sum<<16 | sum>>16, sum ^ 0xff,
			crc32.Checksum([]byte(octets), crc32.MakeTable(crc32.Castagnoli)), adler32.Checksum([]byte(octets))} {
			if other != sum {
				wantError(t, octets+string(binary.LittleEndian.AppendUint32(nil, other)), api.ErrSum)
			}
		}
		if reversed := string(binary.BigEndian.AppendUint32(nil, sum)); octets+reversed != seal(octets) {
			wantError(t, octets+reversed, api.ErrSum)
		}
		wantError(t, seal(octets)+"\x00", api.ErrSum)
		wantError(t, seal(octets)[1:], shortOr(len(octets)+3, api.ErrSum))
	}
}

// shortOr returns ErrShort if there is no room for a checksum in n octets, and e otherwise.
func shortOr(n int, e api.Errno) api.Errno {
	if n < 4 {
		return api.ErrShort
	}
	return e
}

// Headers that header.Read refuses, alone and with octets after them; they come before what is wrong with these octets.
func TestDecodeOfRefusedHeaders(t *testing.T) {
	const (
		a = "\x02\x00\x00\x00\x00\x01"
		b = "\x02\x00\x00\x00\x00\x02"
		g = "\xff\xff\xff\xff\xff\xff"
		z = "\x00\x00\x00\x00\x00\x00"
	)
	for _, c := range []struct {
		head string
		want api.Errno
	}{
		{"\x00\x00\x00\x00" + a, api.ErrForm},      // no kind
		{"\x14\x00\x00\x00" + a, api.ErrForm},      // no kind
		{"\xff\xff\xff\xff" + g, api.ErrForm},      // no kind, and a duration out of its range
		{"\x0e\x01\x00\x00" + a, api.ErrForm},      // an ACK with Retry
		{"\x0e\x40\x00\x00" + a, api.ErrForm},      // an ACK with a policy
		{"\x0e\x20\x00\x80" + a, api.ErrForm},      // an ACK with Joined, and a duration out of its range
		{"\x0e\x00\x00\x80" + a, api.ErrRange},     // a duration out of its range
		{"\x0e\x00\x00\x00" + z, api.ErrRange},     // no address
		{"\x0c\x00\x00\x00" + a + z, api.ErrRange}, // no sender
		{"\x0c\x00\x00\x00" + a + g, api.ErrRange}, // a group as a sender
		{"\x0f\x00\x00\x00" + z + b + "\x00", api.ErrRange},
		{"\x01\x00\x00\x00" + a + b + g + "\x00\x00", api.ErrRange},                    // a group as a network
		{"\x01\x00\x00\x00" + a + b + b + "\x01\x00", api.ErrForm},                     // a part of a beacon
		{"\x01\x01\x00\x00" + g + b + b + "\x00\x00", api.ErrForm},                     // a beacon to all that is repeated
		{"\x01\x02\x00\x00" + a + b + b + "\x00\x00", api.ErrForm},                     // a beacon with More
		{"\x12\xc0\x00\x00" + a + b + b + "\x00\x00\x00\x00\x00", api.ErrRange},        // the policy 3
		{"\x12\x00\x00\x00" + a + b + b + "\x00\x00\x04\x00\x00", api.ErrRange},        // the category 4
		{"\x12\x22\x00\x00" + a + b + b + "\x00\x00\x00\x00\x00", api.ErrForm},         // More and Joined
		{"\x12\x80\x00\x00" + a + b + b + "\x01\x00\x00\x00\x00", api.ErrForm},         // a fragment with a block policy
		{"\x12\x00\x00\x00" + g + b + b + "\x00\x00\x00\x07\x00" + z[1:], api.ErrForm}, // data to all, acknowledged
		{"\x12\x40\x00\x00" + g + b + g + "\x00\x00\x00\x00\x00", api.ErrRange},        // from a group to all
		{"\x13\x80\x00\x00" + a + b + b + "\x00\x00\x00", api.ErrForm},                 // null with a block policy
		{"\x13\x00\x00\x00" + a + b + b + "\x03\x00\x00", api.ErrForm},                 // a part of null
		{"\x13\x02\x00\x00" + a + b + b + "\x00\x00\x00", api.ErrForm},                 // null with More
	} {
		for _, body := range []string{"", "x", filledOctets(longestBody), filledOctets(longestBody + 1), filledOctets(70000)} {
			wantError(t, seal(c.head+body), c.want)
		}
	}
	for kind := range 256 {
		if kind < 1 || kind > kindCount {
			for _, rest := range []string{"", "\x00", "\xff", headerOf(full(dataKind))[1:], filledOctets(longestBody), filledOctets(longestFrame + 1)} {
				wantError(t, seal(string([]byte{byte(kind)})+rest), api.ErrForm)
			}
		}
	}
}

// Frames with every octet in every place of the header, sealed again.
func TestDecodeOfChangedHeaders(t *testing.T) {
	for kind := 1; kind <= kindCount; kind++ {
		for _, f := range []api.Frame{plain(kind), full(kind)} {
			octets := headerOf(f) + f.Body
			for place := range headerOf(f) {
				for octet := range 256 {
					changed := octets[:place] + string([]byte{byte(octet)}) + octets[place+1:]
					want, e := decoded(changed)
					wantDecode(t, seal(changed), want, e)
				}
			}
		}
	}
}

// Octets without an order behind a kind and its flags, sealed.
func TestDecodeOfRandomOctets(t *testing.T) {
	r := rand.New(rand.NewSource(123))
	accepted := 0
	for range 100000 {
		b := make([]byte, r.Intn(60))
		r.Read(b)
		if len(b) > 10 {
			b[0], b[1], b[3], b[4], b[10] = byte(1+r.Intn(kindCount)), b[1]&byte(r.Intn(256)), b[3]&127, b[4]&^1, b[10]&^1
		}
		if len(b) > 24 && r.Intn(2) == 0 {
			b[16], b[22], b[24] = b[16]&^1, b[22]&^15, b[24]&3
		}
		want, e := decoded(string(b))
		wantDecode(t, seal(string(b)), want, e)
		if e == api.OK {
			accepted++
			wantEncoded(t, want, seal(string(b)))
		}
	}
	if accepted < 3000 {
		t.Errorf("%d strings were accepted", accepted)
	}
}

// P12.5

// wantEncoded checks that Encode returns these octets for f, and that Length is their number.
func wantEncoded(t *testing.T, f api.Frame, octets string) {
	t.Helper()
	if s, e := Encode(f); s != octets || e != api.OK {
		t.Errorf("Encode(%#v) = %s, %d, want %s", short(f), brief(s), e, brief(octets))
	}
	if n := Length(f); n != len(octets) {
		t.Errorf("Length(%#v) = %d, want %d", short(f), n, len(octets))
	}
}

func TestRoundTrip(t *testing.T) {
	for _, f := range append(trials(), randomFrames(20000)...) {
		s, e := Encode(f)
		if e != api.OK {
			continue
		}
		wantDecode(t, s, f, api.OK)
		wantEncoded(t, f, s)
	}
}

// Only the octets that Encode returns are accepted: what Decode accepts is encoded as the same octets.
func TestRoundTripOfAcceptedOctets(t *testing.T) {
	for _, f := range randomFrames(300) {
		f.Body = f.Body[:min(len(f.Body), 20)]
		octets := headerOf(f) + f.Body
		for place := range headerOf(f) {
			for octet := range 256 {
				s := seal(octets[:place] + string([]byte{byte(octet)}) + octets[place+1:])
				if g, e := Decode(s); e == api.OK {
					wantEncoded(t, g, s)
				}
			}
		}
	}
}

// P12.6

// flip returns s with the bits changed that mask names from the bit with this number on.
func flip(s string, first int, mask uint32) string {
	b := []byte(s)
	for i := range 32 {
		if mask>>i&1 == 1 {
			b[(first+i)/8] ^= 1 << ((first + i) % 8)
		}
	}
	return string(b)
}

// wantDetected checks that Decode detects changed bits.
func wantDetected(t *testing.T, s string, first int, mask uint32) {
	t.Helper()
	if f, e := Decode(flip(s, first, mask)); f != (api.Frame{}) || e != api.ErrSum {
		t.Errorf("%s, bits %x from %d on: %#v, %d", brief(s), mask, first, short(f), e)
	}
}

// detectable are frames of all kinds in which bits are changed.
func detectable() []string {
	l := []string{octetsOf(longest())}
	for kind := 1; kind <= kindCount; kind++ {
		l = append(l, octetsOf(plain(kind)), octetsOf(full(kind)))
	}
	for _, f := range randomFrames(100) {
		f.Body = f.Body[:min(len(f.Body), 100)]
		l = append(l, octetsOf(f))
	}
	return l
}

func TestDetectionOfOneBit(t *testing.T) {
	for _, s := range detectable() {
		for bit := range 8 * len(s) {
			wantDetected(t, s, bit, 1)
		}
	}
}

func TestDetectionOfAllBits(t *testing.T) {
	for _, s := range detectable()[1:] {
		for first := range 8*len(s) - 31 {
			for _, mask := range []uint32{3, 0xff, 0xffff, 0xffffffff, 0x80000001, 0xedb88320 | 1, 0x04c11db7, 0xaaaaaaab, 0x10101011} {
				wantDetected(t, s, first, mask)
			}
		}
	}
}

// Bits within 32 consecutive numbers at the start, in the middle and at the end of many frames.
func TestDetectionOfManyBits(t *testing.T) {
	r := rand.New(rand.NewSource(126))
	frames := randomFrames(2000)
	for i := range frames {
		frames[i].Body = frames[i].Body[:min(len(frames[i].Body), i)]
	}
	for _, f := range append(frames, longest()) {
		s := octetsOf(f)
		last := 8*len(s) - 32
		for _, first := range []int{0, 1, 8, last / 2, last/2 + 3, last - 9, last - 1, last, r.Intn(last + 1)} {
			for range 4 {
				mask := r.Uint32()
				if mask != 0 {
					wantDetected(t, s, first, mask)
				}
			}
		}
	}
}

// Every pattern of up to twelve bits in every place of a short frame.
func TestDetectionOfShortPatterns(t *testing.T) {
	s := octetsOf(full(ackKind))
	for first := range 8*len(s) - 31 {
		for mask := uint32(1); mask < 1<<12; mask += 2 {
			wantDetected(t, s, first, mask)
			wantDetected(t, s, first, mask<<20)
		}
	}
}

package bundle

import (
	"math/rand"
	"slices"
	"strings"
	"testing"

	"airtime/api"
)

// number is the number in octets, the least significant one last.
func number(s string) int {
	n := 0
	for i := range len(s) {
		n = n*256 + int(s[i])
	}
	return n
}

// decoded is what the chapter says of Decode, subframe by subframe.
func decoded(s string) ([]api.Packet, api.Errno) {
	if len(s) > mostOctets {
		return nil, api.ErrLong
	}
	var l []api.Packet
	for at := 0; ; {
		if len(s)-at < headOctets {
			return nil, api.ErrShort
		}
		to, from := api.Addr(number(s[at:at+6])), api.Addr(number(s[at+6:at+12]))
		size := number(s[at+13:at+14])*256 + number(s[at+12:at+13])
		end := at + headOctets + size
		switch {
		case to == 0 || !single(from):
			return nil, api.ErrRange
		case size > mostData:
			return nil, api.ErrLong
		case len(s) < end:
			return nil, api.ErrShort
		}
		l = append(l, api.Packet{To: to, From: from, Data: s[at+headOctets : end]})
		if end == len(s) {
			return l, api.OK
		}
		at = end
		for at%4 != 0 {
			at++
		}
		if at >= len(s) {
			return nil, api.ErrShort
		}
		if strings.Trim(s[end:at], "\x00") != "" {
			return nil, api.ErrForm
		}
	}
}

// wantDecode checks both results of Decode, and that the rules of the chapter say the same.
func wantDecode(t *testing.T, s string, want []api.Packet, wantErr api.Errno) {
	t.Helper()
	l, e := Decode(s)
	if !slices.Equal(l, want) || e != wantErr {
		t.Fatalf("Decode(%x) is %x with error %d, want %x with error %d", s, l, e, want, wantErr)
	}
	if l, e := decoded(s); !slices.Equal(l, want) || e != wantErr {
		t.Fatalf("the test expects %x with error %d for %x, and computes %x with error %d", want, wantErr, s, l, e)
	}
}

// tryDecode compares Decode with the chapter's rules, and what it accepts with what Encode returns; it returns the error.
func tryDecode(t *testing.T, s string) api.Errno {
	t.Helper()
	l, e := decoded(s)
	wantDecode(t, s, l, e)
	if e == api.OK {
		wantEncode(t, l, s, api.OK)
	}
	return e
}

// wantError checks that Decode returns this error, and no packets.
func wantError(t *testing.T, s string, want api.Errno) {
	t.Helper()
	wantDecode(t, s, nil, want)
}

// heads are the octets of a subframe in front of its data.
func heads(to, from api.Addr, size int) string {
	return big(to) + big(from) + little(size)
}

// samples are lists of packets that fit, with data of each remainder in front of others and at the end.
func samples() [][]api.Packet {
	l := [][]api.Packet{
		sized(0), sized(1), sized(2), sized(3), sized(4), sized(0, 0), sized(1, 1), sized(2, 2), sized(3, 3), sized(4, 4),
		sized(0, 1, 2, 3), sized(3, 2, 1, 0), sized(7, 0, 9), sized(255, 256, 257), sized(1024), sized(1024, 994), sized(994, 1023),
		{{To: lastAddress, From: lastSingle, Data: strings.Repeat("\xff", 5)}, {To: 1, From: 1, Data: strings.Repeat("\x00", 5)}},
	}
	r := rand.New(rand.NewSource(2))
	for len(l) < 60 {
		m := randomList(r)
		if len(octetsOf(m)) <= mostOctets {
			l = append(l, m)
		}
	}
	return l
}

// P16.3

func TestDecodeOfTheExample(t *testing.T) {
	s := "\x02\x00\x00\x00\x00\x01\x02\x00\x00\x00\x00\x02\x01\x00\x61\x00" + "\xff\xfe\xfd\xfc\xfb\xfa\x00\x01\x02\x03\x04\x05\x02\x00\x62\x63"
	l := []api.Packet{
		{To: 0x020000000001, From: 0x020000000002, Data: "a"},
		{To: 0xfffefdfcfbfa, From: 0x000102030405, Data: "bc"},
	}
	wantDecode(t, s, l, api.OK)
	wantError(t, s[:31], api.ErrShort)
	wantDecode(t, s[:15], l[:1], api.OK)
	wantDecode(t, s[16:], l[1:], api.OK)
}

func TestDecodeOfNothing(t *testing.T) {
	wantError(t, "", api.ErrShort)
}

func TestDecodeOfOneSubframe(t *testing.T) {
	for n := range mostData + 1 {
		wantDecode(t, heads(receiver, sender, n)+filled(n), sized(n), api.OK)
	}
}

func TestDecodeOfEachBeginning(t *testing.T) {
	for _, l := range samples() {
		s := octetsOf(l)
		wantDecode(t, s, l, api.OK)
		// Where a subframe ends, the beginning is the aggregate of the packets up to there.
		ends := map[int]int{}
		for i := range l {
			ends[len(octetsOf(l[:i+1]))] = i + 1
		}
		for n := range len(s) {
			if i, ok := ends[n]; ok {
				wantDecode(t, s[:n], l[:i], api.OK)
				continue
			}
			wantError(t, s[:n], api.ErrShort)
		}
	}
}

func TestDecodeOfAddedOctets(t *testing.T) {
	for _, l := range samples() {
		s := octetsOf(l)
		if len(s) == mostOctets {
			continue
		}
		for c := range 256 {
			wantError(t, s+string([]byte{byte(c)}), api.ErrShort)
		}
	}
}

func TestDecodeOfOctetsAddedToEachBeginning(t *testing.T) {
	for _, l := range samples() {
		s := octetsOf(l)
		for n := range min(len(s), 200) {
			for _, c := range []string{"\x00", "\x01", "x", "\xff"} {
				tryDecode(t, s[:n]+c)
			}
		}
	}
}

func TestDecodeOfAddresses(t *testing.T) {
	for _, x := range limits {
		if x.a > lastAddress {
			// There are no such octets.
			continue
		}
		for i := range 3 {
			l := sized(1, 2, 3)
			l[i].To = x.a
			wantDecodeOrError(t, octetsOf(l), l, x.to)
			l = sized(1, 2, 3)
			l[i].From = x.a
			wantDecodeOrError(t, octetsOf(l), l, x.from)
		}
	}
}

// wantDecodeOrError checks that Decode returns l, or this error and nothing.
func wantDecodeOrError(t *testing.T, s string, l []api.Packet, want api.Errno) {
	t.Helper()
	if want != api.OK {
		l = nil
	}
	wantDecode(t, s, l, want)
}

func TestDecodeOfLengths(t *testing.T) {
	data := filled(mostData)
	wantDecode(t, heads(receiver, sender, mostData)+data, sized(mostData), api.OK)
	for _, n := range []int{mostData + 1, mostData + 2, 2033, 2034, 2035, 32768, 65280, 65535} {
		wantError(t, heads(receiver, sender, n), api.ErrLong)
		wantError(t, heads(receiver, sender, n)+data, api.ErrLong)
		wantError(t, heads(receiver, sender, n)+data+"x", api.ErrLong)
		wantError(t, heads(receiver, sender, n)+filled(mostOctets-headOctets), api.ErrLong)
		wantError(t, filledUp(octetsOf(sized(7)))+heads(receiver, sender, n)+data, api.ErrLong)
	}
	for n := range mostData + 1 {
		// One more than what follows.
		if n > 0 {
			wantError(t, heads(receiver, sender, n)+data[:n-1], api.ErrShort)
			wantError(t, filledUp(octetsOf(sized(5)))+heads(receiver, sender, n)+data[:min(n-1, 900)], api.ErrShort)
		}
		// One less: the octet that follows is no subframe.
		if n < mostData {
			wantError(t, heads(receiver, sender, n)+data[:n+1], api.ErrShort)
		}
	}
}

func TestDecodeOfEachLength(t *testing.T) {
	for _, n := range []int{0, 1, 2, 3, 4, 100} {
		for size := range 1 << 16 {
			s := heads(receiver, sender, size) + filled(n)
			switch {
			case size < n:
				// The other octets are not zeros and a subframe.
				if e := tryDecode(t, s); e == api.OK {
					t.Fatalf("Decode(%x) has no error", s)
				}
			case size == n:
				wantDecode(t, s, sized(n), api.OK)
			case size <= mostData:
				wantError(t, s, api.ErrShort)
			default:
				wantError(t, s, api.ErrLong)
			}
		}
	}
}

func TestDecodeOfOctetsThatAreNotZero(t *testing.T) {
	for n := range 8 {
		l := sized(n, 5, n, 0)
		s := octetsOf(l)
		for i := 1; i < len(l); i++ {
			end, next := len(octetsOf(l[:i])), len(filledUp(octetsOf(l[:i])))
			for at := end; at < next; at++ {
				for c := 1; c < 256; c++ {
					wantError(t, s[:at]+string([]byte{byte(c)})+s[at+1:], api.ErrForm)
				}
			}
			// All of them at once.
			if next > end {
				wantError(t, s[:end]+strings.Repeat("\xff", next-end)+s[next:], api.ErrForm)
			}
		}
	}
}

func TestDecodeOfZerosBehindTheLastSubframe(t *testing.T) {
	for n := range 12 {
		s := octetsOf(sized(n))
		for i := 1; i <= 40; i++ {
			want := api.ErrShort
			// The octets 0 behind the necessary ones are the head of a subframe, if there are enough of them.
			if len(s)+i >= len(filledUp(s))+headOctets {
				want = api.ErrRange
			}
			wantError(t, s+strings.Repeat("\x00", i), want)
		}
	}
}

func TestDecodeOfTooFewZeros(t *testing.T) {
	l := sized(1, 1)
	s := octetsOf(l)
	// Without its zero, the second subframe begins one octet too early, and ends with it.
	wantError(t, s[:15]+s[16:], api.ErrForm)
	l = sized(3, 1)
	s = octetsOf(l)
	wantError(t, s[:18]+s[19:], api.ErrForm)
	wantError(t, s[:17]+s[20:], api.ErrForm)
	// One zero too many is the first octet of To, so that the last one is the first octet of From, and makes it a group address.
	l = []api.Packet{with("ab"), {To: 0x010203040505, From: 0x060504030201, Data: "\x00\x00"}}
	s = octetsOf(l)
	wantDecode(t, s, l, api.OK)
	wantError(t, s[:16]+"\x00"+s[16:], api.ErrRange)
}

func TestDecodeAtTheLimit(t *testing.T) {
	l := sized(1024, 994)
	s := octetsOf(l)
	wantDecode(t, s, l, api.OK)
	wantError(t, s+"\x00", api.ErrLong)
	wantError(t, s+"x", api.ErrLong)
	wantError(t, octetsOf(sized(1024, 995)), api.ErrLong)
	l = bare(127)
	l = append(l, with("ab"))
	s = octetsOf(l)
	wantDecode(t, s, l, api.OK)
	wantError(t, s+"\x00", api.ErrLong)
	wantError(t, strings.Repeat("\x00", mostOctets), api.ErrRange)
	wantError(t, strings.Repeat("\x00", mostOctets+1), api.ErrLong)
	wantError(t, strings.Repeat("\xff", mostOctets), api.ErrRange)
	wantError(t, strings.Repeat("\xff", mostOctets+1), api.ErrLong)
	wantError(t, heads(receiver, sender, 1)+filled(mostOctets-headOctets), api.ErrForm)
	wantError(t, heads(receiver, sender, 1)+filled(mostOctets-headOctets+1), api.ErrLong)
	wantError(t, octetsOf(slices.Repeat(sized(1024), 3)), api.ErrLong)
	for _, n := range []int{2050, 4096, 65536, 1 << 20} {
		wantError(t, strings.Repeat("\x01", n), api.ErrLong)
	}
}

func TestDecodeOfTwoErrors(t *testing.T) {
	front := filledUp(octetsOf(sized(6, 1)))
	for _, at := range []string{"", front} {
		for _, x := range []struct {
			s    string
			want api.Errno
		}{
			// Too few octets, and an address that is not valid.
			{heads(0, sender, 0)[:13], api.ErrShort},
			{heads(0, sender, 0)[:6], api.ErrShort},
			{heads(receiver, groupBit, 0)[:12], api.ErrShort},
			{heads(receiver, 0, mostData+1)[:13], api.ErrShort},
			{heads(0, 0, 65535)[:13], api.ErrShort},
			// An address that is not valid, and a length that is too great, or greater than what follows.
			{heads(0, sender, mostData+1), api.ErrRange},
			{heads(receiver, 0, mostData+1), api.ErrRange},
			{heads(receiver, groupBit, 65535), api.ErrRange},
			{heads(0, sender, 1), api.ErrRange},
			{heads(receiver, lastAddress, mostData), api.ErrRange},
			// A length that is too great and greater than what follows.
			{heads(receiver, sender, mostData+1) + "a", api.ErrLong},
			{heads(receiver, sender, 65535), api.ErrLong},
			// Too few zeros, of which one is another octet; or nothing behind such zeros.
			{heads(receiver, sender, 3) + "abc" + "x", api.ErrShort},
			{heads(receiver, sender, 3) + "abc" + "xx", api.ErrShort},
			{heads(receiver, sender, 3) + "abc" + "xxx", api.ErrShort},
			{heads(receiver, sender, 3) + "abc" + "\x00x\x00", api.ErrShort},
			{heads(receiver, sender, 0) + "xx", api.ErrShort},
			{heads(receiver, sender, 1) + "ax", api.ErrShort},
			// Such zeros, and a further subframe with an error.
			{heads(receiver, sender, 3) + "abc" + "xxx" + "\x00", api.ErrForm},
			{heads(receiver, sender, 3) + "abc" + "\x00\x00x" + heads(0, sender, 0), api.ErrForm},
			{heads(receiver, sender, 3) + "abc" + "x\x00\x00" + heads(receiver, sender, 65535), api.ErrForm},
			{heads(receiver, sender, 3) + "abc" + "\x00\x00\x00" + "\x00", api.ErrShort},
			{heads(receiver, sender, 3) + "abc" + "\x00\x00\x00" + heads(0, sender, 0), api.ErrRange},
			{heads(receiver, sender, 3) + "abc" + "\x00\x00\x00" + heads(receiver, sender, 65535), api.ErrLong},
			{heads(receiver, sender, 3) + "abc" + "\x00\x00\x00" + heads(receiver, sender, 1), api.ErrShort},
			// Errors of the first subframe come before those of the second one.
			{heads(0, sender, 2) + "ab" + heads(receiver, sender, 65535), api.ErrRange},
			{heads(receiver, sender, 65535) + "ab" + heads(0, sender, 0), api.ErrLong},
			{heads(receiver, sender, 2) + "ab" + heads(receiver, sender, 65535), api.ErrLong},
			{heads(receiver, sender, 2) + "ab" + heads(receiver, 0, 65535), api.ErrRange},
			{heads(receiver, sender, 100) + "ab" + heads(0, sender, 0), api.ErrShort},
		} {
			wantError(t, at+x.s, x.want)
		}
	}
}

func TestDecodeOfEachOctetInEachPlace(t *testing.T) {
	for _, l := range [][]api.Packet{sized(0), sized(1, 2), sized(0, 0, 0), sized(3, 0, 5), sized(4, 300), {{To: 1, From: 1, Data: "\x00\x00\x00"}, {To: 256, From: 256, Data: "\x00"}}} {
		s := octetsOf(l)
		for i := range len(s) {
			for c := range 256 {
				octet := string([]byte{byte(c)})
				tryDecode(t, s[:i]+octet+s[i+1:])
				tryDecode(t, s[:i]+octet+s[i:])
			}
			tryDecode(t, s[:i]+s[i+1:])
		}
	}
}

func TestDecodeOfDisturbedOctets(t *testing.T) {
	r := rand.New(rand.NewSource(3))
	found := map[api.Errno]int{}
	for range 60000 {
		l := randomList(r)
		s := []byte(octetsOf(l))
		for range 1 + r.Intn(3) {
			i := r.Intn(len(s))
			switch r.Intn(5) {
			case 0:
				s[i] = byte(r.Intn(256))
			case 1:
				s = slices.Insert(s, i, 0)
			case 2:
				if len(s) > 1 {
					s = slices.Delete(s, i, i+1)
				}
			case 3:
				// The octets between and behind the data are likelier to be near the end.
				s = append(s, make([]byte, r.Intn(20))...)
			case 4:
				s = s[:max(1, len(s)-r.Intn(5))]
			}
		}
		found[tryDecode(t, string(s))]++
	}
	for _, e := range []api.Errno{api.OK, api.ErrShort, api.ErrLong, api.ErrForm, api.ErrRange} {
		if found[e] < 1000 {
			t.Errorf("Decode has the error %d only %d times", e, found[e])
		}
	}
}

func TestDecodeOfRandomOctets(t *testing.T) {
	r := rand.New(rand.NewSource(4))
	found := map[api.Errno]int{}
	for range 100000 {
		s := make([]byte, r.Intn(70))
		for i := range s {
			// The first octet of From is even and lengths are short if most octets are 0, 2, or 4.
			if s[i] = byte(2 * r.Intn(3)); r.Intn(20) == 0 {
				s[i] = byte(r.Intn(256))
			}
			if i%16 == 13 && r.Intn(10) > 0 {
				s[i] = 0
			}
		}
		found[tryDecode(t, string(s))]++
	}
	for _, e := range []api.Errno{api.OK, api.ErrShort, api.ErrLong, api.ErrForm, api.ErrRange} {
		if found[e] < 50 {
			t.Errorf("Decode has the error %d only %d times", e, found[e])
		}
	}
}

// P16.5

func TestDecodeOfWhatEncodeReturns(t *testing.T) {
	r := rand.New(rand.NewSource(5))
	accepted := 0
	for range 20000 {
		l := randomList(r)
		s, e := Encode(l)
		if e != api.OK {
			continue
		}
		accepted++
		wantDecode(t, s, l, api.OK)
	}
	if accepted < 10000 {
		t.Errorf("only %d lists fit", accepted)
	}
	for _, l := range samples() {
		s, e := Encode(l)
		if e != api.OK {
			t.Fatalf("Encode of packets with the lengths %d has the error %d", lengthsOf(l), e)
		}
		wantDecode(t, s, l, api.OK)
	}
}

func TestOctetsDiffer(t *testing.T) {
	lists := map[string][]api.Packet{}
	r := rand.New(rand.NewSource(6))
	for range 20000 {
		var l []api.Packet
		for range 1 + r.Intn(3) {
			l = append(l, api.Packet{To: api.Addr(1 + r.Intn(2)), From: api.Addr(1 + r.Intn(2)), Data: strings.Repeat("\x00", r.Intn(5))})
		}
		s, e := Encode(l)
		if e != api.OK {
			t.Fatalf("Encode(%x) has the error %d", l, e)
		}
		if other, ok := lists[s]; ok && !slices.Equal(other, l) {
			t.Fatalf("%x and %x have the same octets", l, other)
		}
		lists[s] = l
	}
}

// wantAppended checks what the chapter says of Room for the aggregate of l.
func wantAppended(t *testing.T, l []api.Packet) {
	t.Helper()
	s, e := Encode(l)
	if e != api.OK {
		t.Fatalf("Encode of packets with the lengths %d has the error %d", lengthsOf(l), e)
	}
	k := Room(len(s), mostOctets)
	if k < 0 {
		wantEncode(t, append(slices.Clone(l), with("")), "", api.ErrLong)
		return
	}
	more := append(slices.Clone(l), with(filled(k)))
	wantEncode(t, more, octetsOf(more), api.OK)
	wantEncode(t, append(slices.Clone(l), with(filled(k+1))), "", api.ErrLong)
	if k < mostData && len(octetsOf(more)) != mostOctets {
		t.Fatalf("%d octets are appended to %d octets, which makes only %d", k, len(s), len(octetsOf(more)))
	}
}

func TestEncodeWithRoomForAPacket(t *testing.T) {
	for _, l := range samples() {
		wantAppended(t, l)
	}
	for n := range mostData + 1 {
		wantAppended(t, sized(n))
		if n <= 994 {
			wantAppended(t, sized(1024, n))
		}
	}
	for n := 1; n <= 128; n++ {
		wantAppended(t, bare(n))
	}
	r := rand.New(rand.NewSource(7))
	for range 10000 {
		if l := randomList(r); len(octetsOf(l)) <= mostOctets {
			wantAppended(t, l)
		}
	}
}

func TestRoomWithALimit(t *testing.T) {
	r := rand.New(rand.NewSource(8))
	for range 10000 {
		l := randomList(r)
		n := len(octetsOf(l))
		if n > mostOctets {
			continue
		}
		most := n + r.Intn(100)
		k := Room(n, most)
		if k >= 0 {
			if m := len(octetsOf(append(slices.Clone(l), with(filled(k))))); m > most || m > mostOctets {
				t.Fatalf("Room(%d, %d) is %d, which makes %d", n, most, k, m)
			}
		}
		if m := len(octetsOf(append(slices.Clone(l), with(filled(k+1))))); k < mostData && m <= min(most, mostOctets) {
			t.Fatalf("Room(%d, %d) is %d, but one more makes only %d", n, most, k, m)
		}
	}
}

// Of no packets, Room says what the first one may have.
func TestRoomForTheFirstPacket(t *testing.T) {
	k := Room(0, mostOctets)
	wantEncode(t, sized(k), octetsOf(sized(k)), api.OK)
	wantEncode(t, sized(k+1), "", api.ErrLong)
}

// R5

// roomy is a copy of l whose slice has room for more packets; what lies there is returned as well, and is not empty.
func roomy(l []api.Packet) (copied, room []api.Packet) {
	b := append(slices.Clone(l), with("behind"), with("the"), with("end"))
	return b[:len(l)], b[len(l):]
}

func TestArgumentsAreNotModified(t *testing.T) {
	behind := []api.Packet{with("behind"), with("the"), with("end")}
	lists := append(samples(), nil, []api.Packet{}, sized(1025, 3), sized(1024, 1024, 7), []api.Packet{{}, with("x")}, []api.Packet{with("x"), {}})
	for _, l := range lists {
		given, room := roomy(l)
		wanted, wantedErr := encoded(l)
		for range 2 {
			wantEncode(t, given, wanted, wantedErr)
			if !slices.Equal(given, l) || !slices.Equal(room, behind) {
				t.Fatalf("Encode changes its list with the lengths %d, or what lies behind it", lengthsOf(l))
			}
		}
	}
}

func TestResultsAreNewMemory(t *testing.T) {
	for _, l := range samples() {
		s := octetsOf(l)
		first, _ := Decode(s)
		second, _ := Decode(s)
		clear(first[:cap(first)])
		if !slices.Equal(second, l) {
			t.Fatalf("two results of Decode share memory")
		}
		wantDecode(t, s, l, api.OK)
	}
}

// R1

func TestEveryCallReturns(t *testing.T) {
	long := filled(1 << 20)
	for _, a := range edgeAddresses {
		p := api.Packet{To: a, From: a, Data: long}
		Check(p)
		Encode(slices.Repeat([]api.Packet{p}, 1000))
	}
	wantEncode(t, slices.Repeat(sized(mostData), 1<<18), "", api.ErrLong)
	for c := range 256 {
		for n := range 300 {
			Decode(strings.Repeat(string([]byte{byte(c)}), n))
		}
		Decode(strings.Repeat(string([]byte{byte(c)}), 1<<16))
	}
}

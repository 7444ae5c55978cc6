package bundle

import (
	"math"
	"math/rand"
	"slices"
	"strings"
	"testing"

	"airtime/api"
)

// The limits as the documents state them, so that a changed constant of the program is noticed.
const (
	mostData    = 1024
	mostOctets  = 2048
	lastAddress = 1<<48 - 1
	groupBit    = 1 << 40
	lastSingle  = lastAddress - groupBit
	headOctets  = 14
)

// The addresses of packets whose addresses do not matter. Each of their octets is another one.
const (
	receiver api.Addr = 0x0a1b2c3d4e5f
	sender   api.Addr = 0x60718293a4b5
)

// with returns a packet with these data.
func with(data string) api.Packet {
	return api.Packet{To: receiver, From: sender, Data: data}
}

// filled returns n octets, which are not all the same, and of which none is 0.
func filled(n int) string {
	s := make([]byte, n)
	for i := range s {
		s[i] = byte(1 + 37*i%251)
	}
	return string(s)
}

// sized returns packets with data of these lengths.
func sized(lengths ...int) []api.Packet {
	var l []api.Packet
	for _, n := range lengths {
		l = append(l, with(filled(n)))
	}
	return l
}

// single reports whether a is valid and no group address.
func single(a api.Addr) bool {
	return a >= 1 && a <= lastAddress && a&groupBit == 0
}

// checked is what the chapter says of Check.
func checked(p api.Packet) api.Errno {
	if p.To < 1 || p.To > lastAddress || !single(p.From) {
		return api.ErrRange
	}
	if len(p.Data) > mostData {
		return api.ErrLong
	}
	return api.OK
}

// big are the octets of an address, and little those of a length.
func big(a api.Addr) string {
	return string([]byte{byte(a >> 40), byte(a >> 32), byte(a >> 24), byte(a >> 16), byte(a >> 8), byte(a)})
}

func little(n int) string {
	return string([]byte{byte(n), byte(n >> 8)})
}

// subframe are the octets of a subframe that is the last one, also for values that are out of range but fit in their octets.
func subframe(p api.Packet) string {
	return big(p.To) + big(p.From) + little(len(p.Data)) + p.Data
}

// filledUp is s with octets 0 up to a multiple of 4.
func filledUp(s string) string {
	for len(s)%4 != 0 {
		s += "\x00"
	}
	return s
}

// octetsOf are the octets of an aggregate as the chapter defines them.
func octetsOf(l []api.Packet) string {
	s := ""
	for _, p := range l {
		s = filledUp(s) + subframe(p)
	}
	return s
}

// encoded is what the chapter says of Encode.
func encoded(l []api.Packet) (string, api.Errno) {
	if len(l) == 0 {
		return "", api.ErrNone
	}
	for _, p := range l {
		if e := checked(p); e != api.OK {
			return "", e
		}
	}
	s := octetsOf(l)
	if len(s) > mostOctets {
		return "", api.ErrLong
	}
	return s, api.OK
}

// wantCheck checks the result of Check, and that Encode and the rules of the chapter say the same of the packet alone.
func wantCheck(t *testing.T, p api.Packet, want api.Errno) {
	t.Helper()
	if e := Check(p); e != want {
		t.Fatalf("Check of a packet to %x from %x with %d octets is %d, want %d", p.To, p.From, len(p.Data), e, want)
	}
	if e := checked(p); e != want {
		t.Fatalf("the test expects %d for a packet to %x from %x with %d octets, and computes %d", want, p.To, p.From, len(p.Data), e)
	}
	s := ""
	if want == api.OK {
		s = subframe(p)
	}
	wantEncode(t, []api.Packet{p}, s, want)
}

// lengthsOf are the lengths of the data of packets.
func lengthsOf(l []api.Packet) []int {
	var lengths []int
	for _, p := range l {
		lengths = append(lengths, len(p.Data))
	}
	return lengths
}

// wantEncode checks both results of Encode.
func wantEncode(t *testing.T, l []api.Packet, want string, wantErr api.Errno) {
	t.Helper()
	s, e := Encode(l)
	if s != want || e != wantErr {
		t.Fatalf("Encode of %d packets with the lengths %d is %x with error %d, want %x with error %d", len(l), lengthsOf(l), s, e, want, wantErr)
	}
}

// tryEncode compares Encode with the chapter's rules, and returns the error.
func tryEncode(t *testing.T, l []api.Packet) api.Errno {
	t.Helper()
	s, e := encoded(l)
	wantEncode(t, l, s, e)
	return e
}

// P16.1

func TestCheckOfTheExample(t *testing.T) {
	wantCheck(t, api.Packet{To: 0x020000000001, From: lastAddress, Data: "a"}, api.ErrRange)
	wantCheck(t, api.Packet{To: 0x020000000001, From: 0x010000000000, Data: "a"}, api.ErrRange)
	wantCheck(t, api.Packet{To: 0x020000000001, From: 0x020000000002, Data: "a"}, api.OK)
	wantCheck(t, api.Packet{}, api.ErrRange)
}

// edgeAddresses are addresses, and numbers that are none, around every limit.
var edgeAddresses = []api.Addr{
	0, 1, 2, 255, 256, 0xffffffff, 1 << 32, groupBit - 1, groupBit, groupBit + 1, 2*groupBit - 1, 2 * groupBit, 2*groupBit + 1,
	3*groupBit - 1, 3 * groupBit, receiver, sender, lastSingle - 1, lastSingle, lastSingle + 1, lastAddress - 1, lastAddress,
	lastAddress + 1, lastAddress + 2, 1<<48 | 5, 1 << 49, 1 << 62, 1 << 63, 1<<63 + 1, math.MaxUint64 - 1, math.MaxUint64,
}

// limits are addresses, and numbers that are none, at and around every limit, with the errors of packets to and from them.
var limits = []struct {
	a        api.Addr
	to, from api.Errno
}{
	{0, api.ErrRange, api.ErrRange},
	{1, api.OK, api.OK},
	{2, api.OK, api.OK},
	{groupBit - 1, api.OK, api.OK},
	{groupBit, api.OK, api.ErrRange},
	{2*groupBit - 1, api.OK, api.ErrRange},
	{2 * groupBit, api.OK, api.OK},
	{lastSingle, api.OK, api.OK},
	{lastSingle + 1, api.OK, api.ErrRange},
	{lastAddress - 1, api.OK, api.ErrRange},
	{lastAddress, api.OK, api.ErrRange},
	{lastAddress + 1, api.ErrRange, api.ErrRange},
	{lastAddress + 2, api.ErrRange, api.ErrRange},
	{math.MaxUint64, api.ErrRange, api.ErrRange},
}

func TestCheckOfAddresses(t *testing.T) {
	for _, x := range limits {
		wantCheck(t, api.Packet{To: x.a, From: sender}, x.to)
		wantCheck(t, api.Packet{To: receiver, From: x.a}, x.from)
	}
}

func TestCheckOfEachBitOfAnAddress(t *testing.T) {
	for i := range 64 {
		a := api.Addr(1) << i
		to, from := api.OK, api.OK
		if i >= 48 {
			to, from = api.ErrRange, api.ErrRange
		}
		if i == 40 {
			from = api.ErrRange
		}
		wantCheck(t, api.Packet{To: a, From: sender}, to)
		wantCheck(t, api.Packet{To: receiver, From: a}, from)
	}
}

func TestCheckOfData(t *testing.T) {
	for n := range 1100 {
		want := api.OK
		if n > 1024 {
			want = api.ErrLong
		}
		wantCheck(t, with(filled(n)), want)
	}
	for _, n := range []int{2047, 2048, 2049, 65535, 65536, 65537, 1 << 20} {
		wantCheck(t, with(filled(n)), api.ErrLong)
	}
}

func TestCheckOfAddressesAndData(t *testing.T) {
	for _, n := range []int{0, 1, mostData, mostData + 1, 65536} {
		wantCheck(t, api.Packet{To: 0, From: sender, Data: filled(n)}, api.ErrRange)
		wantCheck(t, api.Packet{To: receiver, From: 0, Data: filled(n)}, api.ErrRange)
		wantCheck(t, api.Packet{To: receiver, From: groupBit, Data: filled(n)}, api.ErrRange)
		for _, to := range edgeAddresses {
			for _, from := range edgeAddresses {
				p := api.Packet{To: to, From: from, Data: filled(n)}
				wantCheck(t, p, checked(p))
			}
		}
	}
}

func TestCheckAllowsEveryOctetOfData(t *testing.T) {
	for c := range 256 {
		for n := range 6 {
			wantCheck(t, with(strings.Repeat(string([]byte{byte(c)}), n)), api.OK)
		}
	}
}

func TestCheckAllowsPacketsToTheirSender(t *testing.T) {
	wantCheck(t, api.Packet{To: sender, From: sender}, api.OK)
}

// P16.2

func TestEncodeOfTheExample(t *testing.T) {
	l := []api.Packet{
		{To: 0x020000000001, From: 0x020000000002, Data: "a"},
		{To: 0xfffefdfcfbfa, From: 0x000102030405, Data: "bc"},
	}
	want := "\x02\x00\x00\x00\x00\x01\x02\x00\x00\x00\x00\x02\x01\x00\x61\x00" + "\xff\xfe\xfd\xfc\xfb\xfa\x00\x01\x02\x03\x04\x05\x02\x00\x62\x63"
	wantEncode(t, l, want, api.OK)
}

func TestEncodeOfNoPackets(t *testing.T) {
	wantEncode(t, nil, "", api.ErrNone)
	wantEncode(t, []api.Packet{}, "", api.ErrNone)
	wantEncode(t, sized(1, 2, 3)[:0], "", api.ErrNone)
}

func TestEncodeOfOnePacket(t *testing.T) {
	wantEncode(t, []api.Packet{{To: 1, From: 2}}, "\x00\x00\x00\x00\x00\x01\x00\x00\x00\x00\x00\x02\x00\x00", api.OK)
	wantEncode(t, []api.Packet{{To: lastAddress, From: lastSingle, Data: "\x00"}}, "\xff\xff\xff\xff\xff\xff\xfe\xff\xff\xff\xff\xff\x01\x00\x00", api.OK)
	for n := range mostData + 1 {
		data := filled(n)
		wantEncode(t, []api.Packet{with(data)}, "\x0a\x1b\x2c\x3d\x4e\x5f\x60\x71\x82\x93\xa4\xb5"+string([]byte{byte(n % 256), byte(n / 256)})+data, api.OK)
	}
}

func TestEncodeOfEachRemainder(t *testing.T) {
	const addresses = "\x0a\x1b\x2c\x3d\x4e\x5f\x60\x71\x82\x93\xa4\xb5"
	zeros := []string{"\x00\x00", "\x00", "", "\x00\x00\x00"}
	for n := range 40 {
		first := addresses + string([]byte{byte(n), 0}) + filled(n)
		for m := range 40 {
			second := addresses + string([]byte{byte(m), 0}) + filled(m)
			wantEncode(t, sized(n, m), first+zeros[n%4]+second, api.OK)
			wantEncode(t, sized(n, m, 0), first+zeros[n%4]+second+zeros[m%4]+addresses+"\x00\x00", api.OK)
		}
	}
}

func TestEncodeKeepsTheOrder(t *testing.T) {
	a, b, c := api.Packet{To: 1, From: 2, Data: "one"}, api.Packet{To: 3, From: 4}, api.Packet{To: 1, From: 2, Data: "one\x00"}
	for _, l := range [][]api.Packet{{a, b, c}, {c, b, a}, {b, b, a, c}, {a, a, a}, {b, b, b, b, b}} {
		want := ""
		for i, p := range l {
			s := subframe(p)
			if i < len(l)-1 {
				s = filledUp(s)
			}
			want += s
		}
		wantEncode(t, l, want, api.OK)
	}
}

func TestEncodeOfManyPackets(t *testing.T) {
	// 16 octets each, of which the last packet does without two.
	for n := 1; n <= 200; n++ {
		want := api.OK
		if n > 128 {
			want = api.ErrLong
		}
		if e := tryEncode(t, bare(n)); e != want {
			t.Errorf("Encode of %d packets without data has the error %d, want %d", n, e, want)
		}
	}
}

// bare returns n packets without data, with different addresses.
func bare(n int) []api.Packet {
	var l []api.Packet
	for i := range n {
		l = append(l, api.Packet{To: api.Addr(i + 1), From: api.Addr(1000 + i)})
	}
	return l
}

func TestEncodeAtTheLimit(t *testing.T) {
	for _, x := range []struct {
		lengths []int
		octets  int
		want    api.Errno
	}{
		{[]int{1024, 993}, 2047, api.OK},
		{[]int{1024, 994}, 2048, api.OK},
		{[]int{1024, 995}, 2049, api.ErrLong},
		{[]int{994, 1024}, 1008 + 1038, api.OK},
		{[]int{995, 1024}, 1012 + 1038, api.ErrLong},
		{[]int{998, 1020}, 1012 + 1034, api.OK},
		{[]int{998, 1022}, 1012 + 1036, api.OK},
		{[]int{998, 1023}, 1012 + 1037, api.ErrLong},
		// Without the zeros between them these would have 2048 octets or fewer.
		{[]int{1024, 996}, 1040 + 1010, api.ErrLong},
		{[]int{999, 1021}, 1016 + 1035, api.ErrLong},
		{[]int{999, 1018}, 1016 + 1032, api.OK},
		{[]int{999, 1019}, 1016 + 1033, api.ErrLong},
		{[]int{1000, 1020}, 1016 + 1034, api.ErrLong},
		{[]int{1001, 1019}, 1016 + 1033, api.ErrLong},
		{[]int{1, 1, 1, 1987}, 48 + 2001, api.ErrLong},
		{[]int{1024, 0, 978}, 1040 + 16 + 992, api.OK},
		{[]int{1024, 0, 979}, 1040 + 16 + 993, api.ErrLong},
		{[]int{978, 0, 1024}, 992 + 16 + 1038, api.OK},
		{[]int{1024, 1024}, 1040 + 1038, api.ErrLong},
		{[]int{1024, 1024, 1024, 1024}, 3*1040 + 1038, api.ErrLong},
	} {
		l := sized(x.lengths...)
		if n := len(octetsOf(l)); n != x.octets {
			t.Errorf("the test computes %d octets for %d, not %d", n, x.lengths, x.octets)
		}
		if e := tryEncode(t, l); e != x.want {
			t.Errorf("Encode of packets with the lengths %d has the error %d, want %d", x.lengths, e, x.want)
		}
	}
}

func TestEncodeOfTwoPacketsAroundTheLimit(t *testing.T) {
	for n := 980; n <= mostData+1; n++ {
		for m := 980; m <= mostData+1; m++ {
			tryEncode(t, sized(n, m))
		}
	}
}

func TestEncodeCountsTheZerosBetweenPackets(t *testing.T) {
	counted := 0
	for n := range 300 {
		// The subframes without the zeros have exactly as many octets as are allowed.
		l := sized(n, mostData, mostOctets-mostData-n-3*headOctets)
		e := tryEncode(t, l)
		if alone := len(subframe(l[0])) + len(subframe(l[1])) + len(subframe(l[2])); alone != mostOctets {
			t.Fatalf("the test makes subframes of %d octets", alone)
		}
		if e == api.ErrLong {
			counted++
		}
	}
	if counted != 300 {
		t.Errorf("%d aggregates were too long by their zeros, want 300", counted)
	}
}

func TestEncodeReturnsTheErrorOfTheFirstPacketWithOne(t *testing.T) {
	long, address := with(filled(mostData+1)), api.Packet{From: sender}
	both := api.Packet{To: receiver, From: groupBit, Data: filled(mostData + 1)}
	for _, x := range []struct {
		l    []api.Packet
		want api.Errno
	}{
		{[]api.Packet{long, address}, api.ErrLong},
		{[]api.Packet{address, long}, api.ErrRange},
		{[]api.Packet{with(""), long, address}, api.ErrLong},
		{[]api.Packet{with(""), address, long}, api.ErrRange},
		{[]api.Packet{with("a"), with("b"), with("c"), address, with("d"), long}, api.ErrRange},
		{[]api.Packet{both, long}, api.ErrRange},
		{[]api.Packet{long, both}, api.ErrLong},
		{[]api.Packet{with("a"), both}, api.ErrRange},
	} {
		wantEncode(t, x.l, "", x.want)
		tryEncode(t, x.l)
	}
}

func TestEncodeFindsAnErrorInEveryPlace(t *testing.T) {
	for n := 1; n <= 140; n++ {
		for i := range n {
			l := bare(n)
			l[i].From |= groupBit
			wantEncode(t, l, "", api.ErrRange)
			l = bare(n)
			l[i].To = 0
			wantEncode(t, l, "", api.ErrRange)
			l = bare(n)
			l[i].Data = filled(mostData + 1)
			wantEncode(t, l, "", api.ErrLong)
		}
	}
}

func TestEncodeFindsAnErrorBehindPacketsThatAreTooLong(t *testing.T) {
	for _, n := range []int{2, 3, 10, 1000} {
		l := slices.Repeat(sized(mostData), n)
		wantEncode(t, l, "", api.ErrLong)
		for _, bad := range []api.Packet{{}, {To: receiver}, {From: sender}, {To: receiver, From: groupBit}, {To: lastAddress + 1, From: sender, Data: filled(mostData + 1)}} {
			wantEncode(t, append(slices.Clone(l), bad), "", api.ErrRange)
			wantEncode(t, append(append(slices.Clone(l), bad), l...), "", api.ErrRange)
		}
		// The data that are too long come first.
		wantEncode(t, append(slices.Clone(l), with(filled(mostData+1)), api.Packet{}), "", api.ErrLong)
	}
}

// anyOf returns one of these numbers, or any one from low to high.
func anyOf(r *rand.Rand, low, high int, likely ...int) int {
	if i := r.Intn(2 * len(likely)); i < len(likely) {
		return likely[i]
	}
	return low + r.Intn(high-low+1)
}

// randomPacket returns a valid packet with up to this many octets of data.
func randomPacket(r *rand.Rand, most int) api.Packet {
	octets := make([]byte, anyOf(r, 0, most, 0, 1, 2, 3, 4, most)%(most+1))
	r.Read(octets)
	if r.Intn(4) == 0 {
		clear(octets)
	}
	return api.Packet{
		To:   api.Addr(anyOf(r, 1, lastAddress, 1, lastAddress, groupBit)),
		From: max(1, api.Addr(anyOf(r, 1, lastAddress, 1, lastSingle, 2*groupBit))&^groupBit),
		Data: string(octets),
	}
}

// randomList returns valid packets that together have any number of octets up to a limit that is often reached.
func randomList(r *rand.Rand) []api.Packet {
	var l []api.Packet
	most := []int{0, 5, 40, 300, mostData}[r.Intn(5)]
	for range 1 + r.Intn(8) {
		l = append(l, randomPacket(r, most))
	}
	return l
}

func TestEncodeOfManyLists(t *testing.T) {
	r := rand.New(rand.NewSource(1))
	found := map[api.Errno]int{}
	for range 20000 {
		l := randomList(r)
		if r.Intn(3) == 0 {
			p := &l[r.Intn(len(l))]
			switch r.Intn(3) {
			case 0:
				p.To = edgeAddresses[r.Intn(len(edgeAddresses))]
			case 1:
				p.From = edgeAddresses[r.Intn(len(edgeAddresses))]
			case 2:
				p.Data = filled(anyOf(r, 1000, 1100, mostData, mostData+1))
			}
		}
		found[tryEncode(t, l)]++
	}
	for _, e := range []api.Errno{api.OK, api.ErrRange, api.ErrLong} {
		if found[e] < 1000 {
			t.Errorf("Encode has the error %d only %d times", e, found[e])
		}
	}
}

// P16.4

// fits reports whether a packet with this much data can be appended, by the chapter's definitions.
func fits(octets, most, data int) bool {
	if data > mostData {
		return false
	}
	for octets%4 != 0 {
		octets++
	}
	return octets+headOctets+data <= most && octets+headOctets+data <= mostOctets
}

// wantRoom checks that a packet with this much data can be appended, and none with more.
func wantRoom(t *testing.T, octets, most int) {
	t.Helper()
	n := Room(octets, most)
	switch {
	case octets < 0:
		if n != -1 {
			t.Fatalf("Room(%d, %d) is %d, want -1", octets, most, n)
		}
	case n < -1 || n > mostData:
		t.Fatalf("Room(%d, %d) is %d", octets, most, n)
	case n >= 0 && !fits(octets, most, n):
		t.Fatalf("Room(%d, %d) is %d, which is too much", octets, most, n)
	case fits(octets, most, n+1):
		t.Fatalf("Room(%d, %d) is %d, but one more fits", octets, most, n)
	}
}

func TestRoomWithExamples(t *testing.T) {
	for _, x := range [][3]int{
		{17, 50, 16}, {16, 50, 20}, {18, 50, 16}, {19, 50, 16}, {20, 50, 16}, {21, 50, 12}, {17, 34, 0}, {17, 33, -1},
		{0, 2048, 1024}, {0, 1039, 1024}, {0, 1038, 1024}, {0, 1037, 1023}, {0, 15, 1}, {0, 14, 0}, {0, 13, -1}, {0, 1, -1}, {0, 0, -1},
		{1, 18, 0}, {1, 17, -1}, {2, 18, 0}, {3, 18, 0}, {4, 18, 0}, {4, 17, -1}, {5, 18, -1}, {5, 22, 0},
		{14, 2048, 1024}, {14, 1054, 1024}, {14, 1053, 1023}, {15, 30, 0}, {15, 29, -1}, {16, 30, 0}, {16, 31, 1},
		{1038, 2048, 994}, {1038, 2049, 994}, {1038, 9999, 994}, {1040, 2048, 994}, {1041, 2048, 990}, {1008, 2048, 1024}, {1009, 2048, 1022}, {1010, 2048, 1022},
		{1038, 2047, 993}, {2028, 2048, 6}, {2029, 2048, 2}, {2030, 2048, 2}, {2031, 2048, 2}, {2032, 2048, 2}, {2033, 2048, -1}, {2034, 2048, -1},
		{2032, 2047, 1}, {2032, 2046, 0}, {2032, 2045, -1}, {2047, 2048, -1}, {2048, 2048, -1}, {2049, 2048, -1}, {2049, 4096, -1}, {3000, 4096, -1},
		{100, 50, -1}, {100, 100, -1}, {-1, 2048, -1}, {-1, 50, -1}, {-4, 2048, -1}, {-2048, 2048, -1}, {0, -1, -1}, {0, -5, -1}, {16, -1, -1}, {-20, -1, -1},
		{0, math.MaxInt, 1024}, {17, math.MaxInt, 1024}, {2032, math.MaxInt, 2}, {2033, math.MaxInt, -1}, {0, math.MinInt, -1}, {17, math.MinInt, -1},
		{math.MaxInt, 2048, -1}, {math.MaxInt, math.MaxInt, -1}, {math.MaxInt, math.MinInt, -1}, {math.MaxInt, 0, -1},
		{math.MinInt, 2048, -1}, {math.MinInt, math.MaxInt, -1}, {math.MinInt, math.MinInt, -1}, {math.MinInt, 0, -1}, {math.MinInt + 16, 2048, -1},
	} {
		if n := Room(x[0], x[1]); n != x[2] {
			t.Errorf("Room(%d, %d) is %d, want %d", x[0], x[1], n, x[2])
		}
	}
}

func TestRoomOfAllSmallNumbers(t *testing.T) {
	for octets := -20; octets <= 2100; octets++ {
		for most := -20; most <= 2100; most++ {
			wantRoom(t, octets, most)
		}
	}
}

func TestRoomOfGreatNumbers(t *testing.T) {
	ends := []int{math.MinInt, -1 << 62, math.MinInt32, -1 << 16, 1 << 16, math.MaxInt32, 1 << 32, 1 << 62, math.MaxInt}
	for _, end := range ends {
		for d := -40; d <= 40; d++ {
			// What wraps around here is only another great number.
			n := end + d
			for _, m := range append([]int{-1, 0, 13, 14, 15, 17, 50, 2032, 2033, 2047, 2048, 2049, 4096}, ends...) {
				if got := Room(n, m); got != -1 {
					t.Fatalf("Room(%d, %d) is %d, want -1", n, m, got)
				}
			}
			for octets := -1; octets <= 2060; octets++ {
				want := Room(octets, mostOctets)
				if n < 0 {
					want = -1
				}
				if got := Room(octets, n); got != want {
					t.Fatalf("Room(%d, %d) is %d, want %d", octets, n, got, want)
				}
			}
		}
	}
}

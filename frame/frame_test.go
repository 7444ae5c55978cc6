package frame

import (
	"encoding/binary"
	"encoding/hex"
	"fmt"
	"hash/crc32"
	"math"
	"math/rand"
	"strings"
	"testing"

	"airtime/api"
	"airtime/checksum"
	"airtime/header"
)

// Kinds and limits as the chapters state them, so that a changed constant of the program is noticed.
const (
	rtsKind     = 12
	ctsKind     = 13
	ackKind     = 14
	requestKind = 15
	blockKind   = 16
	pollKind    = 17
	dataKind    = 18
	nullKind    = 19

	kindCount   = 19
	longestBody = 2048
	longestWait = 32767
)

// Addresses of three nodes, and group addresses.
const (
	nodeA api.Addr = 0x020000000001
	nodeB api.Addr = 0x020000000002
	nodeC api.Addr = 0x020000000010
	group api.Addr = 0x0300000000ab
	every api.Addr = 0xffffffffffff
)

// names are the names of the kinds from 1 on.
var names = strings.Fields("beacon probe-request probe-response auth assoc-request assoc-response reassoc-request reassoc-response " +
	"disassoc deauth action rts cts ack block-request block-ack poll data null")

// headerLengths are the octets of the headers of the kinds from 1 on, with Key 0.
var headerLengths = []int{24, 24, 24, 24, 24, 24, 24, 24, 24, 24, 24, 16, 10, 10, 16, 16, 16, 27, 25}

// bodiless reports whether a kind uses no Body.
func bodiless(kind int) bool {
	switch kind {
	case rtsKind, ctsKind, ackKind, pollKind, nullKind:
		return true
	}
	return false
}

// plain is a valid frame of a kind in which only what must not be 0 is set; for a number that is no kind, it has the fields
// of management frames.
func plain(kind int) api.Frame {
	f := api.Frame{Kind: kind, To: nodeA, From: nodeB, Third: nodeC}
	switch kind {
	case ctsKind, ackKind:
		f.From, f.Third = 0, 0
	case rtsKind, pollKind, requestKind, blockKind:
		f.Third = 0
	}
	return f
}

// full is a valid frame of a kind in which every field that the kind uses is set, except Joined, which does not go with More.
func full(kind int) api.Frame {
	f := plain(kind)
	f.Duration = 300
	if !bodiless(kind) {
		f.Body = "abc"
	}
	if f.Third != 0 {
		f.Retry, f.Power, f.Seq = true, true, 17
	}
	if kind == dataKind || kind == nullKind {
		f.Stored, f.Last, f.Policy, f.Cat = true, true, 1, 2
	}
	if kind == dataKind {
		f.More, f.Frag, f.Key, f.Count = true, 3, 7, 258
	}
	return f
}

// filledOctets are n octets, which are not all the same.
func filledOctets(n int) string {
	b := make([]byte, n)
	for i := range b {
		b[i] = byte(7*i + i/256 + 1)
	}
	return string(b)
}

// A change makes another frame of a frame.
type change func(f *api.Frame)

// changes put each field at its bounds, one beyond them and far beyond them.
func changes() []change {
	l := []change{
		func(*api.Frame) {},
		func(f *api.Frame) { f.Retry = !f.Retry },
		func(f *api.Frame) { f.More = !f.More },
		func(f *api.Frame) { f.Power = !f.Power },
		func(f *api.Frame) { f.Stored = !f.Stored },
		func(f *api.Frame) { f.Last = !f.Last },
		func(f *api.Frame) { f.Joined = !f.Joined },
		func(f *api.Frame) { f.Joined, f.More, f.Frag, f.Policy = true, false, 0, 2 },
		func(f *api.Frame) { f.To, f.Retry = group, false },
		func(f *api.Frame) { f.To, f.Retry, f.Policy = every, false, 1 },
		func(f *api.Frame) { f.Kind = 20 },
	}
	for _, number := range []struct {
		most int
		set  func(f *api.Frame, n int)
	}{
		{longestWait, func(f *api.Frame, n int) { f.Duration = n }},
		{4095, func(f *api.Frame, n int) { f.Seq = n }},
		{15, func(f *api.Frame, n int) { f.Frag = n }},
		{3, func(f *api.Frame, n int) { f.Cat = n }},
		{2, func(f *api.Frame, n int) { f.Policy = n }},
		{65535, func(f *api.Frame, n int) { f.Key = n }},
		{1<<40 - 1, func(f *api.Frame, n int) { f.Count = n }},
	} {
		for _, n := range []int{0, 1, number.most - 1, number.most, number.most + 1, -1, 1 << 32, 1<<48 + 1, math.MinInt, math.MaxInt} {
			l = append(l, func(f *api.Frame) { number.set(f, n) })
		}
	}
	for _, a := range []api.Addr{0, 1, nodeA, nodeC, 1<<40 - 1, 1 << 40, group, 0xfeffffffffff, every, 1 << 48, 1<<48 | nodeA, math.MaxUint64} {
		l = append(l, func(f *api.Frame) { f.To = a }, func(f *api.Frame) { f.From = a }, func(f *api.Frame) { f.Third = a })
	}
	return l
}

// trials are valid and not valid frames of every kind from 0 to 20 and of far numbers, with all changes and with bodies of
// 0, 1, 2048 and 2049 octets.
func trials() []api.Frame {
	var l []api.Frame
	bodies := []string{"", "x", filledOctets(longestBody), filledOctets(longestBody + 1)}
	kinds := []int{-1, -14, 21, 255, 256 + 14, 1<<16 + 18, 1<<32 + 18, math.MinInt, math.MaxInt}
	for kind := range 21 {
		kinds = append(kinds, kind)
	}
	for _, kind := range kinds {
		for _, base := range []api.Frame{plain(kind), full(kind)} {
			for _, set := range changes() {
				f := base
				set(&f)
				l = append(l, f)
				for _, f.Body = range bodies {
					l = append(l, f)
				}
			}
		}
	}
	return l
}

// randomFrames are n valid frames; they are the same in every run.
func randomFrames(n int) []api.Frame {
	r := rand.New(rand.NewSource(12))
	set := changes()
	var l []api.Frame
	for len(l) < n {
		f := plain(1 + r.Intn(kindCount))
		if r.Intn(2) == 0 {
			f = full(1 + r.Intn(kindCount))
		}
		if !bodiless(f.Kind) {
			f.Body = filledOctets(longestBody + 1)[r.Intn(longestBody+1):]
		}
		f.Duration = r.Intn(longestWait + 1)
		for range r.Intn(4) {
			set[r.Intn(len(set))](&f)
		}
		if header.Check(f) == api.OK {
			l = append(l, f)
		}
	}
	return l
}

// big are the six octets of an address, the most significant one first.
func big(a api.Addr) []byte {
	return binary.BigEndian.AppendUint64(nil, uint64(a))[2:]
}

// flagOctet is the octet of the flags of f.
func flagOctet(f api.Frame) byte {
	n := 64 * f.Policy
	for i, set := range []bool{f.Retry, f.More, f.Power, f.Stored, f.Last, f.Joined} {
		if set {
			n += 1 << i
		}
	}
	return byte(n)
}

// headerOf are the octets of the header of a valid frame.
func headerOf(f api.Frame) string {
	b := []byte{byte(f.Kind), flagOctet(f), byte(f.Duration), byte(f.Duration >> 8)}
	b = append(b, big(f.To)...)
	if f.Kind != ctsKind && f.Kind != ackKind {
		b = append(b, big(f.From)...)
	}
	if f.Kind < rtsKind || f.Kind > pollKind {
		b = append(b, big(f.Third)...)
		b = binary.LittleEndian.AppendUint16(b, uint16(16*f.Seq+f.Frag))
	}
	if f.Kind == dataKind || f.Kind == nullKind {
		b = append(b, byte(f.Cat))
	}
	if f.Kind == dataKind {
		b = binary.LittleEndian.AppendUint16(b, uint16(f.Key))
		if f.Key != 0 {
			b = append(b, binary.LittleEndian.AppendUint64(nil, uint64(f.Count))[:5]...)
		}
	}
	return string(b)
}

// seal returns octets followed by their CRC-32.
func seal(octets string) string {
	sum := crc32.ChecksumIEEE([]byte(octets))
	return octets + string(binary.LittleEndian.AppendUint32(nil, sum))
}

// octetsOf are the octets of a valid frame.
func octetsOf(f api.Frame) string {
	return seal(headerOf(f) + f.Body)
}

// short returns f with a body that can be printed.
func short(f api.Frame) api.Frame {
	f.Body = f.Body[:min(len(f.Body), 16)]
	return f
}

// brief returns octets that can be printed.
func brief(octets string) string {
	return fmt.Sprintf("%d octets %x", len(octets), octets[:min(len(octets), 48)])
}

func TestFullFramesAreValid(t *testing.T) {
	for kind := 1; kind <= kindCount; kind++ {
		for _, f := range []api.Frame{plain(kind), full(kind)} {
			if e := header.Check(f); e != api.OK {
				t.Errorf("%#v is not valid: %d", f, e)
			}
		}
	}
}

func TestTrialsAreOfBothSorts(t *testing.T) {
	n := 0
	for _, f := range trials() {
		if header.Check(f) == api.OK {
			n++
		}
	}
	if n < 2000 || len(trials())-n < 2000 {
		t.Errorf("%d of %d trials are valid", n, len(trials()))
	}
}

// samples are frames with their octets, written out; the checksums were computed by a separate program.
var samples = []struct {
	f      api.Frame
	octets string
}{
	{api.Frame{Kind: api.KindAck, Duration: 5, To: nodeA}, "0e 00 05 00 02 00 00 00 00 01 3c c7 6c 8f"},
	{api.Frame{Kind: api.KindCTS, Duration: 32767, To: every}, "0d 00 ff 7f ff ff ff ff ff ff 41 09 04 da"},
	{api.Frame{Kind: api.KindRTS, Duration: 300, To: nodeA, From: nodeB}, "0c 00 2c 01 02 00 00 00 00 01 02 00 00 00 00 02 e1 fd 14 98"},
	{api.Frame{Kind: api.KindPoll, To: nodeA, From: nodeB}, "11 00 00 00 02 00 00 00 00 01 02 00 00 00 00 02 56 b1 7e 4d"},
	{api.Frame{Kind: api.KindBlockRequest, Duration: 1, To: nodeA, From: nodeB, Body: "\x02\x07\x00"},
		"0f 00 01 00 02 00 00 00 00 01 02 00 00 00 00 02 02 07 00 e9 ec 4f 91"},
	{api.Frame{Kind: api.KindBlockAck, Duration: 1, To: nodeA, From: nodeB, Body: "\x02\x07\x00\x05\x00\x00\x00\x00\x00\x00\x00"},
		"10 00 01 00 02 00 00 00 00 01 02 00 00 00 00 02 02 07 00 05 00 00 00 00 00 00 00 64 ae 16 29"},
	{api.Frame{Kind: api.KindBeacon, Power: true, To: every, From: nodeB, Third: nodeB, Seq: 4095, Body: "abc"},
		"01 04 00 00 ff ff ff ff ff ff 02 00 00 00 00 02 02 00 00 00 00 02 f0 ff 61 62 63 70 e5 f6 92"},
	{api.Frame{Kind: api.KindAuth, Retry: true, Duration: 300, To: nodeA, From: nodeB, Third: nodeC, Seq: 17},
		"04 01 2c 01 02 00 00 00 00 01 02 00 00 00 00 02 02 00 00 00 00 10 10 01 73 dd 78 7c"},
	{api.Frame{Kind: api.KindData, Retry: true, To: nodeA, From: nodeB, Third: nodeC, Seq: 17, Cat: 2, Body: "abc"},
		"12 01 00 00 02 00 00 00 00 01 02 00 00 00 00 02 02 00 00 00 00 10 10 01 02 00 00 61 62 63 f7 97 39 93"},
	{api.Frame{Kind: api.KindData, Retry: true, Power: true, Stored: true, Last: true, Joined: true, Policy: 2, Duration: 258, To: nodeA, From: nodeB,
		Third: every, Cat: 3, Key: 7, Count: 258},
		"12 bd 02 01 02 00 00 00 00 01 02 00 00 00 00 02 ff ff ff ff ff ff 00 00 03 07 00 02 01 00 00 00 29 d6 93 46"},
	{api.Frame{Kind: api.KindData, More: true, Policy: 1, Duration: 258, To: every, From: nodeB, Third: nodeC, Seq: 4095, Frag: 15,
		Key: 65535, Count: 1<<40 - 1, Body: "\x00"},
		"12 42 02 01 ff ff ff ff ff ff 02 00 00 00 00 02 02 00 00 00 00 10 ff ff 00 ff ff ff ff ff ff ff 00 ba e1 20 e1"},
	{api.Frame{Kind: api.KindNull, Retry: true, Power: true, Stored: true, Last: true, Policy: 1, To: nodeA, From: nodeB, Third: nodeC, Seq: 1, Cat: 1},
		"13 5d 00 00 02 00 00 00 00 01 02 00 00 00 00 02 02 00 00 00 00 10 10 00 01 43 c0 bd 14"},
}

// unhex returns the octets that are written in hexadecimal.
func unhex(t *testing.T, text string) string {
	t.Helper()
	b, err := hex.DecodeString(strings.ReplaceAll(text, " ", ""))
	if err != nil {
		t.Fatal(err)
	}
	return string(b)
}

func TestSamples(t *testing.T) {
	for _, c := range samples {
		octets := unhex(t, c.octets)
		if s, e := Encode(c.f); s != octets || e != api.OK {
			t.Errorf("Encode(%#v) = %x, %d, want %x", c.f, s, e, octets)
		}
		if f, e := Decode(octets); f != c.f || e != api.OK {
			t.Errorf("Decode(%x) = %#v, %d, want %#v", octets, f, e, c.f)
		}
		if n := Length(c.f); n != len(octets) {
			t.Errorf("Length(%#v) = %d, want %d", c.f, n, len(octets))
		}
	}
}

// P12.1

func TestLengthOfKinds(t *testing.T) {
	if n := Length(api.Frame{Kind: api.KindAck, To: nodeA}); n != 14 {
		t.Error("an ACK:", n)
	}
	for i, n := range headerLengths {
		f := plain(i + 1)
		if got := Length(f); got != n+4 {
			t.Errorf("%s: %d, want %d", names[i], got, n+4)
		}
		for _, body := range []int{1, 2, 255, 256, 1024, longestBody - 1, longestBody, longestBody + 1, 65536} {
			f.Body = filledOctets(body)
			want := n + body + 4
			if bodiless(f.Kind) || body > longestBody {
				want = 0
			}
			if got := Length(f); got != want {
				t.Errorf("%s with a body of %d octets: %d, want %d", names[i], body, got, want)
			}
		}
	}
	for _, c := range []struct{ key, count, want int }{{0, 0, 34}, {1, 0, 39}, {7, 258, 39}, {65535, 1<<40 - 1, 39}, {0, 1, 0}, {65536, 0, 0}, {-1, 0, 0}, {7, 1 << 40, 0}} {
		f := plain(dataKind)
		f.Key, f.Count, f.Body = c.key, c.count, "abc"
		if n := Length(f); n != c.want {
			t.Errorf("data with Key %d and Count %d: %d, want %d", c.key, c.count, n, c.want)
		}
	}
}

func TestLengthOfTrials(t *testing.T) {
	for _, f := range trials() {
		want := 0
		if header.Check(f) == api.OK {
			want = len(octetsOf(f))
		}
		if n := Length(f); n != want {
			t.Errorf("Length(%#v) = %d, want %d", short(f), n, want)
		}
	}
}

// P12.2

func TestEncodeExample(t *testing.T) {
	s, e := Encode(api.Frame{Kind: api.KindAck, Duration: 5, To: nodeA})
	if s != checksum.Seal("\x0e\x00\x05\x00\x02\x00\x00\x00\x00\x01") || e != api.OK {
		t.Errorf("%x, %d", s, e)
	}
}

func TestEncodeOfTrials(t *testing.T) {
	for _, f := range trials() {
		want, wantError := "", header.Check(f)
		if wantError == api.OK {
			want = octetsOf(f)
		}
		if s, e := Encode(f); s != want || e != wantError {
			t.Errorf("Encode(%#v) = %s, %d, want %s, %d", short(f), brief(s), e, brief(want), wantError)
		}
	}
}

// Each error of header.Check, in its order.
func TestEncodeErrors(t *testing.T) {
	long := filledOctets(longestBody + 1)
	for name, c := range map[string]struct {
		f    api.Frame
		set  change
		want api.Errno
	}{
		"the zero frame":                      {api.Frame{}, func(*api.Frame) {}, api.ErrForm},
		"no kind":                             {full(dataKind), func(f *api.Frame) { f.Kind, f.Duration, f.Body = 20, -1, long }, api.ErrForm},
		"a kind modulo 256":                   {plain(ackKind), func(f *api.Frame) { f.Kind = 256 + ackKind }, api.ErrForm},
		"a negative duration":                 {plain(ackKind), func(f *api.Frame) { f.Duration = -1 }, api.ErrRange},
		"a duration that is too great":        {plain(ackKind), func(f *api.Frame) { f.Duration = longestWait + 1 }, api.ErrRange},
		"no address":                          {plain(ackKind), func(f *api.Frame) { f.To = 0 }, api.ErrRange},
		"a range before a length":             {full(dataKind), func(f *api.Frame) { f.Seq, f.Body = 4096, long }, api.ErrRange},
		"a long body":                         {full(dataKind), func(f *api.Frame) { f.Body = long }, api.ErrLong},
		"a length before a field":             {full(1), func(f *api.Frame) { f.Cat, f.Body = 1, long }, api.ErrLong},
		"a category of an ACK":                {plain(ackKind), func(f *api.Frame) { f.Cat = 1 }, api.ErrForm},
		"a body of an ACK":                    {plain(ackKind), func(f *api.Frame) { f.Body = "x" }, api.ErrForm},
		"a long body of an ACK":               {plain(ackKind), func(f *api.Frame) { f.Body = long }, api.ErrForm},
		"a fragment that is an aggregate":     {full(dataKind), func(f *api.Frame) { f.Joined = true }, api.ErrForm},
		"a frame to a group that is repeated": {full(1), func(f *api.Frame) { f.To = every }, api.ErrForm},
	} {
		c.set(&c.f)
		if s, e := Encode(c.f); s != "" || e != c.want {
			t.Errorf("%s: %s, %d, want %d", name, brief(s), e, c.want)
		}
	}
}

// P12.4

// named returns the names of the flags of f that are set, each after a space.
func named(f api.Frame) string {
	text := ""
	for i, set := range []bool{f.Retry, f.More, f.Power, f.Stored, f.Last} {
		if set {
			text += " " + strings.Fields("retry more power stored last")[i]
		}
	}
	return text
}

// textOf is the text of a valid frame.
func textOf(f api.Frame) string {
	text := func(a api.Addr) string {
		var l []string
		for _, octet := range big(a) {
			l = append(l, fmt.Sprintf("%02x", octet))
		}
		return strings.Join(l, ":")
	}
	from := text(f.From)
	if f.From == 0 {
		from = "-"
	}
	return fmt.Sprintf("%s %s %s %d.%d %d %d%s", names[f.Kind-1], text(f.To), from, f.Seq, f.Frag, f.Cat, len(f.Body), named(f))
}

func TestTextExamples(t *testing.T) {
	data := api.Frame{Kind: api.KindData, To: nodeB, From: nodeA, Third: nodeA}
	const ends = "data 02:00:00:00:00:02 02:00:00:00:00:01"
	for _, c := range []struct {
		f    api.Frame
		set  change
		want string
	}{
		{data, func(f *api.Frame) { f.Seq, f.Cat, f.Body, f.Retry = 17, 2, filledOctets(40), true }, ends + " 17.0 2 40 retry"},
		{data, func(*api.Frame) {}, ends + " 0.0 0 0"},
		{data, func(f *api.Frame) { f.More = true }, ends + " 0.0 0 0 more"},
		{data, func(f *api.Frame) { f.Power = true }, ends + " 0.0 0 0 power"},
		{data, func(f *api.Frame) { f.Stored = true }, ends + " 0.0 0 0 stored"},
		{data, func(f *api.Frame) { f.Last = true }, ends + " 0.0 0 0 last"},
		{data, func(f *api.Frame) { f.Joined = true }, ends + " 0.0 0 0"},
		{data, func(f *api.Frame) { f.Retry, f.Stored = true, true }, ends + " 0.0 0 0 retry stored"},
		{data, func(f *api.Frame) { f.Retry, f.More, f.Power, f.Stored, f.Last = true, true, true, true, true }, ends + " 0.0 0 0 retry more power stored last"},
		{data, func(f *api.Frame) { f.Duration, f.Policy, f.Key, f.Count, f.Third = 300, 1, 7, 258, every }, ends + " 0.0 0 0"},
		{data, func(f *api.Frame) { f.Seq, f.Frag, f.Cat, f.Body = 4095, 15, 3, filledOctets(2048) }, ends + " 4095.15 3 2048"},
		{data, func(f *api.Frame) { f.Seq, f.Frag, f.Cat, f.Body = 10, 10, 1, filledOctets(10) }, ends + " 10.10 1 10"},
		{data, func(f *api.Frame) { f.Body = "\n\x00 \xff" }, ends + " 0.0 0 4"},
		{data, func(f *api.Frame) { f.To, f.Policy = every, 1 }, "data ff:ff:ff:ff:ff:ff 02:00:00:00:00:01 0.0 0 0"},
		{data, func(f *api.Frame) { f.To, f.From = 0x123456789a, 0xfeabcdef0102 }, "data 00:12:34:56:78:9a fe:ab:cd:ef:01:02 0.0 0 0"},
		{plain(ackKind), func(f *api.Frame) { f.Duration = 300 }, "ack 02:00:00:00:00:01 - 0.0 0 0"},
		{plain(ctsKind), func(f *api.Frame) { f.To = every }, "cts ff:ff:ff:ff:ff:ff - 0.0 0 0"},
		{plain(rtsKind), func(*api.Frame) {}, "rts 02:00:00:00:00:01 02:00:00:00:00:02 0.0 0 0"},
		{plain(pollKind), func(*api.Frame) {}, "poll 02:00:00:00:00:01 02:00:00:00:00:02 0.0 0 0"},
		{full(requestKind), func(*api.Frame) {}, "block-request 02:00:00:00:00:01 02:00:00:00:00:02 0.0 0 3"},
		{full(blockKind), func(*api.Frame) {}, "block-ack 02:00:00:00:00:01 02:00:00:00:00:02 0.0 0 3"},
		{full(7), func(*api.Frame) {}, "reassoc-request 02:00:00:00:00:01 02:00:00:00:00:02 17.0 0 3 retry power"},
		{full(nullKind), func(*api.Frame) {}, "null 02:00:00:00:00:01 02:00:00:00:00:02 17.0 2 0 retry power stored last"},
		{data, func(f *api.Frame) { f.Cat = 4 }, ""},
		{data, func(f *api.Frame) { f.Body = filledOctets(longestBody + 1) }, ""},
		{data, func(f *api.Frame) { f.Joined, f.More = true, true }, ""},
		{data, func(f *api.Frame) { f.From = 0 }, ""},
		{plain(ackKind), func(f *api.Frame) { f.From = nodeB }, ""},
		{plain(20), func(*api.Frame) {}, ""},
		{api.Frame{}, func(*api.Frame) {}, ""},
	} {
		f := c.f
		c.set(&f)
		if s := Text(f); s != c.want {
			t.Errorf("Text(%#v) = %q, want %q", short(f), s, c.want)
		}
	}
}

func TestTextOfTrials(t *testing.T) {
	for _, f := range append(trials(), randomFrames(5000)...) {
		want := ""
		if header.Check(f) == api.OK {
			want = textOf(f)
		}
		if s := Text(f); s != want || strings.Contains(s, "\n") {
			t.Errorf("Text(%#v) = %q, want %q", short(f), s, want)
		}
	}
}

// Every kind with every set of flags.
func TestTextOfFlags(t *testing.T) {
	for kind := 1; kind <= kindCount; kind++ {
		for set := range 64 {
			f := plain(kind)
			for i, flag := range []*bool{&f.Retry, &f.More, &f.Power, &f.Stored, &f.Last, &f.Joined} {
				*flag = set&(1<<i) != 0
			}
			want := ""
			if header.Check(f) == api.OK {
				want = textOf(f)
			}
			if s := Text(f); s != want {
				t.Errorf("Text(%#v) = %q, want %q", f, s, want)
			}
		}
	}
}

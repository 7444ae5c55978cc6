package control

import (
	"math"
	"math/big"
	"testing"

	"airtime/address"
	"airtime/api"
	"airtime/header"
)

// Kinds and limits as the chapters state them, so that a changed constant of the program is noticed.
const (
	rtsKind     = 12
	ctsKind     = 13
	ackKind     = 14
	requestKind = 15
	blockKind   = 16
	pollKind    = 17
	dataKind    = 18
	nullKind    = 19

	longestWait = 32767
	longestBody = 2048
)

// Addresses of three nodes, and group addresses.
const (
	nodeA api.Addr = 0x020000000001
	nodeB api.Addr = 0x020000000002
	nodeC api.Addr = 0x020000000010
	group api.Addr = 0x0300000000ab
	every api.Addr = 0xffffffffffff
)

// singles are valid addresses that are no group addresses; groups are group addresses; invalid ones are not valid.
var (
	singles = []api.Addr{nodeA, nodeB, nodeC, 1, 0x020000000000, 0xfe0000000000, 1<<40 - 1, 0xfeffffffffff}
	groups  = []api.Addr{group, every, 1 << 40, 0x010000000001, 0xff0000000000, every - 1}
	invalid = []api.Addr{0, 1 << 48, 1<<48 | nodeA, 1<<48 | group, 1 << 63, math.MaxUint64}
)

// anyAddresses are addresses of all three sorts.
func anyAddresses() []api.Addr {
	l := append([]api.Addr{}, singles...)
	l = append(l, groups...)
	return append(l, invalid...)
}

// durations are durations that frames may have, and ones that they may not have.
var durations = []int{0, 1, 6, 7, 8, 9, 12, 13, 20, 255, 256, longestWait - 1, longestWait, longestWait + 1, 65536, -1, -9, math.MinInt, math.MaxInt}

// extremes are ints far beyond the bounds; some of them are in range modulo 2^8, 2^16 or 2^32.
var extremes = []int{math.MinInt, math.MinInt + 1, -1 << 32, -1<<32 + 2, -65536, -4096, -256, 255, 256, 257, 65535, 65536, 65537, 1 << 32, 1<<32 + 1, 1<<40 + 3,
	math.MaxInt - 1, math.MaxInt}

// categories are the access categories and numbers that are none.
func categories() []int {
	return append([]int{-2, -1, 0, 1, 2, 3, 4, 5}, extremes...)
}

// firsts are sequence numbers and numbers that are none.
func firsts() []int {
	return append([]int{-2, -1, 0, 1, 127, 128, 254, 258, 511, 2048, 4094, 4095, 4096, 4097}, extremes...)
}

// maps are maps of a block acknowledgement.
func maps() []uint64 {
	l := []uint64{0, 5, 0x0123456789abcdef, 1<<32 - 1, 1<<63 - 1, 1<<63 + 2, math.MaxUint64 - 1, math.MaxUint64}
	for i := range 64 {
		l = append(l, 1<<i, ^(uint64(1) << i))
	}
	return l
}

// ranged reports whether cat and start are in the ranges of the chapter.
func ranged(cat, start int) bool {
	return 0 <= cat && cat <= 3 && 0 <= start && start <= 4095
}

// octetsOf are the octets of a body: the category, the first number, and, of a block acknowledgement, the map.
func octetsOf(cat, start int, m ...uint64) string {
	b := []byte{byte(cat), byte(start % 256), byte(start / 256)}
	for _, n := range m {
		for range 8 {
			b = append(b, byte(n%256))
			n /= 256
		}
	}
	return string(b)
}

// filledOctets are n octets that begin with a category and a first number.
func filledOctets(n int) string {
	b := make([]byte, n)
	for i := range b {
		b[i] = byte(i%4 + 1)
	}
	return string(b)
}

// valid is a valid frame of a kind, from nodeB to nodeA; a frame of another kind has the same fields as data.
func valid(kind int) api.Frame {
	f := api.Frame{Kind: kind, To: nodeA, From: nodeB, Third: nodeC, Seq: 17, Duration: 20}
	switch kind {
	case rtsKind, pollKind:
		f.Third, f.Seq = 0, 0
	case ctsKind, ackKind:
		f.From, f.Third, f.Seq = 0, 0, 0
	case requestKind:
		f.Third, f.Seq, f.Body = 0, 0, "\x02\x07\x00"
	case blockKind:
		f.Third, f.Seq, f.Body = 0, 0, "\x02\x07\x00\x05\x00\x00\x00\x00\x00\x00\x00"
	case nullKind:
	default:
		f.Body = "abc"
	}
	return f
}

// A change makes another frame of a frame.
type change func(f *api.Frame)

// changes are changes of the other fields, each of which makes frames of some kinds, or of all, not valid.
var changes = []change{
	func(*api.Frame) {},
	func(f *api.Frame) { f.Retry = true },
	func(f *api.Frame) { f.Power = true },
	func(f *api.Frame) { f.Stored = true },
	func(f *api.Frame) { f.Last = true },
	func(f *api.Frame) { f.Joined = true },
	func(f *api.Frame) { f.From = 0 },
	func(f *api.Frame) { f.From = group },
	func(f *api.Frame) { f.From = 1 << 48 },
	func(f *api.Frame) { f.From = 0xfeffffffffff },
	func(f *api.Frame) { f.Third = 0 },
	func(f *api.Frame) { f.Third = every },
	func(f *api.Frame) { f.Third = nodeA },
	func(f *api.Frame) { f.Seq = 0 },
	func(f *api.Frame) { f.Seq = 4095 },
	func(f *api.Frame) { f.Seq = 4096 },
	func(f *api.Frame) { f.Frag = 15 },
	func(f *api.Frame) { f.Frag = 16 },
	func(f *api.Frame) { f.Cat = 3 },
	func(f *api.Frame) { f.Cat = 4 },
	func(f *api.Frame) { f.Key = 7 },
	func(f *api.Frame) { f.Key, f.Count = 65535, 1<<40-1 },
	func(f *api.Frame) { f.Count = 1 },
	func(f *api.Frame) { f.Body = "" },
	func(f *api.Frame) { f.Body = "\x00" },
	func(f *api.Frame) { f.Body = "\x04\xff\xff" },
	func(f *api.Frame) { f.Body = filledOctets(longestBody) },
	func(f *api.Frame) { f.Body = filledOctets(longestBody + 1) },
}

// trial is a frame that may be answered, and whether it is valid.
type trial struct {
	f    api.Frame
	good bool
}

// trials are valid and not valid frames of every kind from 0 to 20 and beyond, with To of every sort, with every Policy,
// with and without More, with all durations and changes.
func trials() []trial {
	var l []trial
	add := func(f api.Frame) {
		l = append(l, trial{f, header.Check(f) == api.OK})
	}
	for _, kind := range []int{0, 1, 2, 3, 4, 5, 6, 7, 8, 9, 10, 11, 12, 13, 14, 15, 16, 17, 18, 19, 20, -1, -18, 256 + 12, 1<<32 + 18, math.MinInt, math.MaxInt} {
		for _, to := range []api.Addr{nodeA, 0xfeffffffffff, group, every, 0, 1 << 48, 1<<48 | nodeA, math.MaxUint64} {
			for _, policy := range []int{0, 1, 2, 3, -1} {
				for _, more := range []bool{false, true} {
					f := valid(kind)
					f.To, f.Policy, f.More = to, policy, more
					for _, set := range changes {
						g := f
						set(&g)
						add(g)
					}
					for _, f.Duration = range durations {
						add(f)
					}
				}
			}
		}
	}
	return l
}

// short returns f with a body that can be printed.
func short(f api.Frame) api.Frame {
	f.Body = f.Body[:min(len(f.Body), 16)]
	return f
}

// count counts the trials with an answer, so that a test cannot hold because nothing is answered.
type count struct {
	answers, silences int
}

// want checks the answer to a frame: the frame want and true if it is to be answered, and nothing otherwise.
func (c *count) want(t *testing.T, name string, f, got api.Frame, ok bool, answered bool, want api.Frame) {
	t.Helper()
	if !answered {
		want = api.Frame{}
		c.silences++
	} else {
		c.answers++
	}
	if got != want || ok != answered {
		t.Errorf("%s(%#v) = %#v, %t, want %#v, %t", name, short(f), short(got), ok, short(want), answered)
	}
}

// enough checks that many frames were answered, and many others were not.
func (c *count) enough(t *testing.T, n int) {
	t.Helper()
	if c.answers < n || c.silences < n {
		t.Errorf("%d answers, %d silences", c.answers, c.silences)
	}
}

// left is what an exchange of this duration leaves to a response of 7 slots.
func left(duration int) int {
	if duration < 8 {
		return 0
	}
	return duration - 8
}

func TestValid(t *testing.T) {
	for kind := 1; kind <= 19; kind++ {
		if e := header.Check(valid(kind)); e != api.OK {
			t.Errorf("%#v is not valid: %d", valid(kind), e)
		}
	}
}

// P11.1

func TestRespond(t *testing.T) {
	for _, c := range []struct{ duration, slots, want int }{
		{20, 7, 12},
		{0, 0, 0},
		{1, 0, 0},
		{2, 0, 1},
		{0, 7, 0},
		{5, 7, 0},
		{7, 7, 0},
		{8, 7, 0},
		{9, 7, 1},
		{12, 7, 4},
		{13, 7, 5},
		{longestWait, 7, 32759},
		{-1, 7, 0},
		{-1, -1, 0},
		{-20, -100, 0},
		{20, -7, 19},
		{20, math.MinInt, 19},
		{math.MinInt, 7, 0},
		{math.MinInt, math.MinInt, 0},
		{math.MinInt, math.MaxInt, 0},
		{0, math.MaxInt, 0},
		{math.MaxInt, 0, math.MaxInt - 1},
		{math.MaxInt, math.MinInt, math.MaxInt - 1},
		{math.MaxInt, math.MaxInt, 0},
		{math.MaxInt, math.MaxInt - 1, 0},
		{math.MaxInt, math.MaxInt - 2, 1},
		{math.MaxInt - 1, math.MaxInt, 0},
	} {
		if got := Respond(c.duration, c.slots); got != c.want {
			t.Errorf("Respond(%d, %d) = %d, want %d", c.duration, c.slots, got, c.want)
		}
	}
}

// Many pairs of arguments, computed without wraparound.
func TestRespondOfManyArguments(t *testing.T) {
	arguments := append([]int{}, extremes...)
	for n := -20; n <= 60; n++ {
		arguments = append(arguments, n)
	}
	for i := range 63 {
		arguments = append(arguments, 1<<i, -1<<i, 1<<i-1)
	}
	natural := func(n int) *big.Int {
		return big.NewInt(int64(max(n, 0)))
	}
	for _, duration := range arguments {
		for _, slots := range arguments {
			want := new(big.Int).Sub(natural(duration), natural(slots))
			want.Sub(want, big.NewInt(1))
			if want.Sign() < 0 {
				want.SetInt64(0)
			}
			if got := Respond(duration, slots); int64(got) != want.Int64() {
				t.Errorf("Respond(%d, %d) = %d, want %d", duration, slots, got, want)
			}
		}
	}
}

// P11.2

// Addresses and durations are not checked, and the other fields are zero.
func TestRTSAndPoll(t *testing.T) {
	for _, to := range anyAddresses() {
		for _, from := range anyAddresses() {
			for _, duration := range durations {
				if f := RTS(to, from, duration); f != (api.Frame{Kind: rtsKind, To: to, From: from, Duration: duration}) {
					t.Errorf("RTS(%x, %x, %d) = %#v", to, from, duration, f)
				}
			}
			if f := Poll(to, from); f != (api.Frame{Kind: pollKind, To: to, From: from}) {
				t.Errorf("Poll(%x, %x) = %#v", to, from, f)
			}
		}
	}
}

// P11.3

func TestCTSExamples(t *testing.T) {
	for _, c := range []struct{ duration, want int }{{20, 12}, {0, 0}, {7, 0}, {8, 0}, {9, 1}, {12, 4}, {13, 5}, {100, 92}, {32767, 32759}} {
		f, ok := CTS(api.Frame{Kind: api.KindRTS, To: nodeA, From: nodeB, Duration: c.duration})
		if f != (api.Frame{Kind: api.KindCTS, To: nodeB, Duration: c.want}) || !ok {
			t.Errorf("Duration %d: %#v, %t", c.duration, f, ok)
		}
	}
	for _, f := range []api.Frame{
		{},
		{Kind: api.KindRTS},
		{Kind: api.KindRTS, To: every, From: nodeB, Duration: 20},
		{Kind: api.KindRTS, To: group, From: nodeB, Duration: 20},
		{Kind: api.KindRTS, To: 0, From: nodeB, Duration: 20},
		{Kind: api.KindRTS, To: nodeA, From: 0, Duration: 20},
		{Kind: api.KindRTS, To: nodeA, From: group, Duration: 20},
		{Kind: api.KindRTS, To: nodeA, From: nodeB, Duration: 32768},
		{Kind: api.KindRTS, To: nodeA, From: nodeB, Duration: -1},
		{Kind: api.KindRTS, To: nodeA, From: nodeB, Duration: 20, Cat: 1},
		{Kind: api.KindRTS, To: nodeA, From: nodeB, Duration: 20, Body: "x"},
		{Kind: api.KindPoll, To: nodeA, From: nodeB, Duration: 20},
		{Kind: api.KindCTS, To: nodeA, Duration: 20},
		{Kind: api.KindData, To: nodeA, From: nodeB, Third: nodeC, Duration: 20},
	} {
		if g, ok := CTS(f); g != (api.Frame{}) || ok {
			t.Errorf("CTS(%#v) = %#v, %t", f, g, ok)
		}
	}
}

func TestCTS(t *testing.T) {
	var c count
	for _, try := range trials() {
		f := try.f
		got, ok := CTS(f)
		answered := try.good && f.Kind == rtsKind && !address.Group(f.To)
		c.want(t, "CTS", f, got, ok, answered, api.Frame{Kind: ctsKind, To: f.From, Duration: left(f.Duration)})
	}
	c.enough(t, 20)
	for _, to := range anyAddresses() {
		for _, from := range anyAddresses() {
			for _, duration := range durations {
				f := RTS(to, from, duration)
				got, ok := CTS(f)
				answered := isSingle(to) && isSingle(from) && duration >= 0 && duration <= longestWait
				c.want(t, "CTS", f, got, ok, answered, api.Frame{Kind: 13, To: from, Duration: left(duration)})
			}
		}
	}
}

// isSingle reports whether a is in singles.
func isSingle(a api.Addr) bool {
	for _, b := range singles {
		if a == b {
			return true
		}
	}
	return false
}

// P11.4

func TestAckExamples(t *testing.T) {
	data := api.Frame{Kind: api.KindData, To: nodeA, From: nodeB, Third: nodeA, Duration: 30}
	for _, c := range []struct {
		name string
		set  change
		want int
	}{
		{"data", func(*api.Frame) {}, 0},
		{"the greatest duration", func(f *api.Frame) { f.Duration = 32767 }, 0},
		{"no duration", func(f *api.Frame) { f.Duration = 0 }, 0},
		{"a fragment", func(f *api.Frame) { f.More = true }, 22},
		{"the last fragment", func(f *api.Frame) { f.Frag = 3 }, 0},
		{"a further fragment", func(f *api.Frame) { f.Frag, f.More = 3, true }, 22},
		{"a fragment without a duration", func(f *api.Frame) { f.More, f.Duration = true, 0 }, 0},
		{"a fragment of 8", func(f *api.Frame) { f.More, f.Duration = true, 8 }, 0},
		{"a fragment of 9", func(f *api.Frame) { f.More, f.Duration = true, 9 }, 1},
		{"a fragment of 12", func(f *api.Frame) { f.More, f.Duration = true, 12 }, 4},
		{"a fragment of 13", func(f *api.Frame) { f.More, f.Duration = true, 13 }, 5},
		{"a fragment of the greatest duration", func(f *api.Frame) { f.More, f.Duration = true, 32767 }, 32759},
		{"no acknowledgement is requested", func(f *api.Frame) { f.Policy = api.PolicyNone }, 0},
		{"a fragment, no acknowledgement is requested", func(f *api.Frame) { f.Policy, f.More = api.PolicyNone, true }, 22},
		{"a block acknowledgement is requested", func(f *api.Frame) { f.Policy = api.PolicyBlock }, 0},
		{"data for a group", func(f *api.Frame) { f.Third = every }, 0},
		{"a retransmission with a key", func(f *api.Frame) { f.Retry, f.Key, f.Count = true, 7, 8 }, 0},
		{"the greatest body", func(f *api.Frame) { f.Body = filledOctets(longestBody) }, 0},
	} {
		f := data
		c.set(&f)
		if g, ok := Ack(f); g != (api.Frame{Kind: api.KindAck, To: nodeB, Duration: c.want}) || !ok {
			t.Errorf("%s: %#v, %t", c.name, g, ok)
		}
	}
	for name, set := range map[string]change{
		"a group":                     func(f *api.Frame) { f.To, f.Policy = group, api.PolicyNone },
		"all nodes":                   func(f *api.Frame) { f.To, f.Policy = every, api.PolicyNone },
		"no receiver":                 func(f *api.Frame) { f.To = 0 },
		"no sender":                   func(f *api.Frame) { f.From = 0 },
		"a group as the sender":       func(f *api.Frame) { f.From = group },
		"a duration that is too long": func(f *api.Frame) { f.Duration = 32768 },
		"a negative duration":         func(f *api.Frame) { f.Duration = -1 },
		"a body that is too long":     func(f *api.Frame) { f.Body = filledOctets(longestBody + 1) },
		"a fragment of a block":       func(f *api.Frame) { f.More, f.Policy = true, api.PolicyBlock },
		"no such policy":              func(f *api.Frame) { f.Policy = 3 },
		"a count without a key":       func(f *api.Frame) { f.Count = 1 },
	} {
		f := data
		set(&f)
		if g, ok := Ack(f); g != (api.Frame{}) || ok {
			t.Errorf("%s: %#v, %t", name, g, ok)
		}
	}
}

// The kinds that are acknowledged.
func TestAckOfKinds(t *testing.T) {
	acknowledged := map[int]bool{3: true, 4: true, 5: true, 6: true, 7: true, 8: true, 9: true, 10: true, 11: true, 17: true, 18: true, 19: true}
	for kind := 0; kind <= 20; kind++ {
		f, ok := Ack(valid(kind))
		want := api.Frame{}
		if acknowledged[kind] {
			want = api.Frame{Kind: 14, To: nodeB}
		}
		if f != want || ok != acknowledged[kind] {
			t.Errorf("kind %d: %#v, %t", kind, f, ok)
		}
	}
}

func TestAck(t *testing.T) {
	var c count
	for _, try := range trials() {
		f := try.f
		got, ok := Ack(f)
		acknowledged := f.Kind >= 3 && f.Kind <= 11 || f.Kind >= 17 && f.Kind <= 19
		want := api.Frame{Kind: ackKind, To: f.From}
		if f.More {
			want.Duration = left(f.Duration)
		}
		c.want(t, "Ack", f, got, ok, try.good && acknowledged && !address.Group(f.To), want)
	}
	c.enough(t, 500)
}

// P11.5

func TestRequestExamples(t *testing.T) {
	for _, c := range []struct {
		cat, start int
		body       string
	}{
		{0, 0, "\x00\x00\x00"},
		{2, 7, "\x02\x07\x00"},
		{1, 256, "\x01\x00\x01"},
		{3, 4095, "\x03\xff\x0f"},
	} {
		want := api.Frame{Kind: api.KindBlockRequest, To: nodeA, From: nodeB, Body: c.body}
		if f := Request(nodeA, nodeB, c.cat, c.start); f != want {
			t.Errorf("%d, %d: %#v, want %#v", c.cat, c.start, f, want)
		}
		if cat, start, e := ReadRequest(want); cat != c.cat || start != c.start || e != api.OK {
			t.Errorf("%x: %d, %d, %d", c.body, cat, start, e)
		}
	}
	for _, c := range [][2]int{{4, 0}, {-1, 0}, {0, -1}, {0, 4096}, {256, 0}, {0, 65536}, {math.MaxInt, math.MaxInt}, {math.MinInt, math.MinInt}} {
		if f := Request(nodeA, nodeB, c[0], c[1]); f != (api.Frame{}) {
			t.Errorf("%v: %#v", c, f)
		}
	}
}

func TestRequestOfBounds(t *testing.T) {
	for _, cat := range categories() {
		for _, start := range firsts() {
			want := api.Frame{}
			if ranged(cat, start) {
				want = api.Frame{Kind: requestKind, To: nodeC, From: nodeA, Body: octetsOf(cat, start)}
			}
			if f := Request(nodeC, nodeA, cat, start); f != want {
				t.Errorf("Request(%d, %d) = %#v, want %#v", cat, start, f, want)
			}
		}
	}
}

func TestRequestOfAddresses(t *testing.T) {
	for _, to := range anyAddresses() {
		for _, from := range anyAddresses() {
			if f := Request(to, from, 1, 258); f != (api.Frame{Kind: requestKind, To: to, From: from, Body: "\x01\x02\x01"}) {
				t.Errorf("Request(%x, %x) = %#v", to, from, f)
			}
			if f := Request(to, from, 4, 258); f != (api.Frame{}) {
				t.Errorf("Request(%x, %x) with a category out of range = %#v", to, from, f)
			}
		}
	}
}

// contents is what a body says, and the error that it has.
type contents struct {
	cat, start int
	m          uint64
	e          api.Errno
}

// said is what a frame of a kind says, of which one is read, with n octets in its body.
func said(f api.Frame, kind, n int) contents {
	switch {
	case f.Kind != kind:
		return contents{e: 3}
	case len(f.Body) < n:
		return contents{e: 1}
	case len(f.Body) > n:
		return contents{e: 2}
	}
	c := contents{cat: int(f.Body[0]), start: int(f.Body[1]) + 256*int(f.Body[2])}
	for i := n - 1; i >= 3; i-- {
		c.m = 256*c.m + uint64(f.Body[i])
	}
	if c.cat > 3 || c.start > 4095 {
		return contents{e: 4}
	}
	return c
}

// wantRead checks the results of ReadRequest and ReadBlock for f.
func wantRead(t *testing.T, f api.Frame) {
	t.Helper()
	var c contents
	c.cat, c.start, c.e = ReadRequest(f)
	if want := said(f, requestKind, 3); c != want {
		t.Errorf("ReadRequest(%#v) = %#v, want %#v", short(f), c, want)
	}
	c.cat, c.start, c.m, c.e = ReadBlock(f)
	if want := said(f, blockKind, 11); c != want {
		t.Errorf("ReadBlock(%#v) = %#v, want %#v", short(f), c, want)
	}
}

// others are frames of which only Kind and Body matter.
var others = []api.Frame{
	{},
	{To: nodeA, From: nodeB},
	{To: group, From: every, Third: 1 << 48, Duration: -1},
	{Retry: true, More: true, Power: true, Stored: true, Last: true, Joined: true, Policy: 3, Duration: math.MaxInt, To: math.MaxUint64, From: math.MaxUint64,
		Third: math.MaxUint64, Seq: 4096, Frag: 16, Cat: 4, Key: 65536, Count: -1},
	{Seq: math.MinInt, Cat: 3, Key: 7, Count: 1},
}

// bodies are bodies of every length from 0 to 20 octets with each octet at 0, at 255 and at some other values.
func bodies() []string {
	l := []string{filledOctets(longestBody), filledOctets(longestBody + 1), filledOctets(65536 + 3), filledOctets(65536 + 11), filledOctets(256 + 3), filledOctets(256 + 11)}
	for n := 0; n <= 20; n++ {
		for _, s := range []string{filledOctets(n), string(make([]byte, n))} {
			l = append(l, s)
			for i := range n {
				for _, octet := range []byte{0, 1, 3, 4, 15, 16, 127, 128, 254, 255} {
					b := []byte(s)
					b[i] = octet
					l = append(l, string(b))
				}
			}
		}
	}
	return l
}

// The errors of ReadRequest, in their order.
func TestReadRequestErrors(t *testing.T) {
	for _, c := range []struct {
		kind int
		body string
		want api.Errno
	}{
		{16, "\x00\x00\x00", api.ErrForm},
		{16, "", api.ErrForm},
		{16, "\x04\x00\x10\x00", api.ErrForm},
		{0, "\x00\x00\x00", api.ErrForm},
		{18, "\x02\x07", api.ErrForm},
		{15, "", api.ErrShort},
		{15, "\x04", api.ErrShort},
		{15, "\xff\xff", api.ErrShort},
		{15, "\x00\x00", api.ErrShort},
		{15, "\x00\x00\x00\x00", api.ErrLong},
		{15, "\x04\x00\x10\x00", api.ErrLong},
		{15, octetsOf(2, 7, 5), api.ErrLong},
		{15, "\x04\x00\x00", api.ErrRange},
		{15, "\xff\x00\x00", api.ErrRange},
		{15, "\x00\x00\x10", api.ErrRange},
		{15, "\x00\xff\xff", api.ErrRange},
		{15, "\xff\xff\xff", api.ErrRange},
		{15, "\x03\xff\x0f", api.OK},
	} {
		cat, start, e := ReadRequest(api.Frame{Kind: c.kind, Body: c.body})
		if e != c.want || e != api.OK && (cat != 0 || start != 0) {
			t.Errorf("kind %d, body %x: %d, %d, %d, want %d", c.kind, c.body, cat, start, e, c.want)
		}
	}
}

// P11.5 and P11.6

func TestReadOfKindsAndBodies(t *testing.T) {
	all := bodies()
	for _, f := range others {
		for _, kind := range []int{0, 1, 2, 3, 4, 5, 6, 7, 8, 9, 10, 11, 12, 13, 14, 15, 16, 17, 18, 19, 20, -1, -15, -16, 256 + 15, 256 + 16, 1<<32 + 15,
			1<<32 + 16, math.MinInt, math.MinInt + 15, math.MaxInt} {
			f.Kind = kind
			for _, f.Body = range all {
				wantRead(t, f)
			}
		}
	}
}

// Every category, with first numbers at the ends of what two octets hold.
func TestReadOfStarts(t *testing.T) {
	for cat := range 256 {
		for high := range 256 {
			for _, low := range []int{0, 1, 127, 128, 255} {
				s := octetsOf(cat, 256*high+low)
				wantRead(t, api.Frame{Kind: requestKind, Body: s})
				wantRead(t, api.Frame{Kind: blockKind, Body: s + "\x01\x02\x03\x04\x05\x06\x07\x88"})
			}
		}
	}
}

// P11.6

func TestBlockExamples(t *testing.T) {
	b, ok := Block(Request(nodeB, nodeA, 2, 7), 2, 7, 5)
	if b != (api.Frame{Kind: api.KindBlockAck, To: nodeA, From: nodeB, Body: "\x02\x07\x00\x05\x00\x00\x00\x00\x00\x00\x00"}) || !ok {
		t.Error(b, ok)
	}
	if cat, start, m, e := ReadBlock(b); cat != 2 || start != 7 || m != 5 || e != api.OK {
		t.Error(cat, start, m, e)
	}
	data := api.Frame{Kind: api.KindData, To: nodeA, From: nodeB, Third: nodeC, Policy: api.PolicyBlock, Duration: 30, Seq: 9, Cat: 1}
	b, ok = Block(data, 3, 4095, 0x8877665544332211)
	if b != (api.Frame{Kind: api.KindBlockAck, To: nodeB, From: nodeA, Body: "\x03\xff\x0f\x11\x22\x33\x44\x55\x66\x77\x88"}) || !ok {
		t.Error(b, ok)
	}
	// The category and the first number are those of the call, whatever the frame says.
	for _, body := range []string{"", "\xff\xff\xff", "\x01", filledOctets(longestBody)} {
		req := api.Frame{Kind: api.KindBlockRequest, To: nodeA, From: nodeB, Body: body, Duration: 32767}
		b, ok = Block(req, 1, 258, 1)
		if b != (api.Frame{Kind: api.KindBlockAck, To: nodeB, From: nodeA, Body: "\x01\x02\x01\x01\x00\x00\x00\x00\x00\x00\x00"}) || !ok {
			t.Error(b, ok)
		}
	}
	for name, req := range map[string]api.Frame{
		"nothing":               {},
		"an immediate policy":   {Kind: api.KindData, To: nodeA, From: nodeB, Third: nodeC},
		"no policy":             {Kind: api.KindData, To: nodeA, From: nodeB, Third: nodeC, Policy: api.PolicyNone},
		"a fragment":            {Kind: api.KindData, To: nodeA, From: nodeB, Third: nodeC, Policy: api.PolicyBlock, More: true},
		"data to a group":       {Kind: api.KindData, To: every, From: nodeB, Third: nodeC, Policy: api.PolicyBlock},
		"null":                  {Kind: api.KindNull, To: nodeA, From: nodeB, Third: nodeC, Policy: api.PolicyBlock},
		"an acknowledgement":    {Kind: api.KindBlockAck, To: nodeA, From: nodeB, Body: octetsOf(2, 7, 5)},
		"a request to a group":  Request(group, nodeB, 2, 7),
		"a request to nobody":   Request(0, nodeB, 2, 7),
		"a request from nobody": Request(nodeA, 0, 2, 7),
		"a request by a group":  Request(nodeA, every, 2, 7),
		"a request with policy": {Kind: api.KindBlockRequest, To: nodeA, From: nodeB, Policy: api.PolicyBlock},
		"a request too long":    {Kind: api.KindBlockRequest, To: nodeA, From: nodeB, Body: filledOctets(longestBody + 1)},
		"a request that lasts":  {Kind: api.KindBlockRequest, To: nodeA, From: nodeB, Duration: 32768},
		"a negative duration":   {Kind: api.KindBlockRequest, To: nodeA, From: nodeB, Duration: -1},
	} {
		if b, ok := Block(req, 2, 7, 5); b != (api.Frame{}) || ok {
			t.Errorf("%s: %#v, %t", name, b, ok)
		}
	}
}

func TestBlock(t *testing.T) {
	var c count
	for i, try := range trials() {
		f, cat, start, m := try.f, i%4, 7*i%4096, uint64(i)*0x9e3779b97f4a7c15
		got, ok := Block(f, cat, start, m)
		asked := f.Kind == requestKind || f.Kind == dataKind && f.Policy == 2
		want := api.Frame{Kind: blockKind, To: f.From, From: f.To, Body: octetsOf(cat, start, m)}
		c.want(t, "Block", f, got, ok, try.good && asked && !address.Group(f.To), want)
	}
	c.enough(t, 50)
}

func TestBlockOfBounds(t *testing.T) {
	data := valid(dataKind)
	data.Policy = 2
	var c count
	for _, f := range []api.Frame{valid(requestKind), data} {
		for _, cat := range categories() {
			for _, start := range firsts() {
				for _, m := range []uint64{0, 1 << 63, math.MaxUint64} {
					got, ok := Block(f, cat, start, m)
					want := api.Frame{Kind: blockKind, To: nodeB, From: nodeA}
					if ranged(cat, start) {
						want.Body = octetsOf(cat, start, m)
					}
					c.want(t, "Block", f, got, ok, ranged(cat, start), want)
				}
			}
		}
	}
	c.enough(t, 100)
}

// The errors of ReadBlock, in their order.
func TestReadBlockErrors(t *testing.T) {
	rest := string(make([]byte, 8))
	for _, c := range []struct {
		kind int
		body string
		want api.Errno
	}{
		{15, "\x00\x00\x00" + rest, api.ErrForm},
		{15, "\x00\x00\x00", api.ErrForm},
		{20, "\x04\x00\x10" + rest + rest, api.ErrForm},
		{0, "", api.ErrForm},
		{16, "", api.ErrShort},
		{16, "\x00\x00\x00", api.ErrShort},
		{16, "\x04\x00\x10", api.ErrShort},
		{16, "\xff\xff\xff" + rest[1:], api.ErrShort},
		{16, "\x00\x00\x00" + rest[1:], api.ErrShort},
		{16, "\x00\x00\x00\x00" + rest, api.ErrLong},
		{16, "\x04\x00\x10\x00" + rest, api.ErrLong},
		{16, "\x04\x00\x00" + rest, api.ErrRange},
		{16, "\x00\x00\x10" + rest, api.ErrRange},
		{16, "\xff\xff\xff\xff\xff\xff\xff\xff\xff\xff\xff", api.ErrRange},
		{16, "\x03\xff\x0f\xff\xff\xff\xff\xff\xff\xff\xff", api.OK},
	} {
		cat, start, m, e := ReadBlock(api.Frame{Kind: c.kind, Body: c.body})
		if e != c.want || e != api.OK && (cat != 0 || start != 0 || m != 0) {
			t.Errorf("kind %d, body %x: %d, %d, %d, %d, want %d", c.kind, c.body, cat, start, m, e, c.want)
		}
	}
}

// P11.7

// Whatever is answered, the answers go to its sender; a block acknowledgement comes from its receiver.
func TestAddressesOfAnswers(t *testing.T) {
	answers := map[int]int{}
	for _, to := range singles {
		for _, from := range singles {
			for kind := 1; kind <= 19; kind++ {
				f := valid(kind)
				f.To = to
				if f.From != 0 {
					f.From = from
				}
				for _, f.Policy = range []int{0, 1, 2} {
					c, cleared := CTS(f)
					a, acknowledged := Ack(f)
					b, listed := Block(f, 2, 7, 5)
					if cleared && (c.To != from || c.From != 0) || acknowledged && (a.To != from || a.From != 0) || listed && (b.To != from || b.From != to) {
						t.Errorf("%#v is answered by %#v, %#v, %#v", f, c, a, b)
					}
					answers[c.Kind]++
					answers[a.Kind]++
					answers[b.Kind]++
				}
			}
		}
	}
	for kind, least := range map[int]int{ctsKind: 1, ackKind: 15, blockKind: 2} {
		if pairs := len(singles) * len(singles); answers[kind] < least*pairs {
			t.Errorf("%d answers of kind %d", answers[kind], kind)
		}
	}
}

// P11.8

// Every category with every first number is read as it was passed.
func TestPassedIsRead(t *testing.T) {
	all := maps()
	for cat := range 4 {
		for start := range 4096 {
			to, from := singles[start%len(singles)], singles[start/8%len(singles)]
			q := Request(to, from, cat, start)
			if c, s, e := ReadRequest(q); c != cat || s != start || e != api.OK || header.Check(q) != api.OK {
				t.Errorf("%d, %d: %#v is read as %d, %d, %d", cat, start, q, c, s, e)
			}
			m := all[(start+cat)%len(all)]
			b, ok := Block(q, cat, start, m)
			if c, s, n, e := ReadBlock(b); !ok || c != cat || s != start || n != m || e != api.OK || header.Check(b) != api.OK {
				t.Errorf("%d, %d, %x: %#v, %t is read as %d, %d, %x, %d", cat, start, m, b, ok, c, s, n, e)
			}
		}
	}
}

func TestMapIsRead(t *testing.T) {
	data := valid(dataKind)
	data.Policy = 2
	for _, m := range maps() {
		b, ok := Block(data, 3, 4095, m)
		if cat, start, n, e := ReadBlock(b); !ok || cat != 3 || start != 4095 || n != m || e != api.OK || header.Check(b) != api.OK {
			t.Errorf("%x: %#v, %t is read as %d, %d, %x, %d", m, b, ok, cat, start, n, e)
		}
	}
}

// The answers to valid frames are valid themselves, and so is what is requested of single addresses.
func TestAnswersAreValid(t *testing.T) {
	for _, try := range trials() {
		c, ok := CTS(try.f)
		if ok && header.Check(c) != api.OK {
			t.Errorf("CTS(%#v) = %#v is not valid", short(try.f), c)
		}
		a, ok := Ack(try.f)
		if ok && header.Check(a) != api.OK {
			t.Errorf("Ack(%#v) = %#v is not valid", short(try.f), a)
		}
		b, ok := Block(try.f, 3, 4095, 1)
		if ok && header.Check(b) != api.OK {
			t.Errorf("Block(%#v) = %#v is not valid", short(try.f), b)
		}
	}
	for _, to := range singles {
		for _, from := range singles {
			for _, f := range []api.Frame{Request(to, from, 0, 0), Request(to, from, 3, 4095), RTS(to, from, longestWait), Poll(to, from)} {
				if e := header.Check(f); e != api.OK {
					t.Errorf("%#v is not valid: %d", f, e)
				}
			}
		}
	}
}

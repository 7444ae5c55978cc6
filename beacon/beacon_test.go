package beacon

import (
	"math"
	"math/rand"
	"strings"
	"testing"

	"airtime/api"
	"airtime/tim"
)

// The limits as the documents state them, so that a changed constant of the program is noticed.
const (
	lastSlot      = 1 << 24
	mostInterval  = 65535
	longestName   = 32
	lastChannel   = 8
	mostLoad      = 65535
	longestPeriod = 255
	mostCount     = 255
	mostWait      = 32767
	categories    = 4
)

// allSet has every identifier from 1 to 63.
const allSet = math.MaxUint64 - 1

// name returns a name of n octets, which are not all the same.
func name(n int) string {
	b := make([]byte, n)
	for i := range b {
		b[i] = byte(37*i + 200)
	}
	return string(b)
}

// params are the parameters with these numbers.
func params(aifsn, least, most, txop int) api.Params {
	return api.Params{Aifsn: aifsn, Min: least, Max: most, Txop: txop}
}

// defaults are the parameters that the chapter states for Default.
func defaults() [categories]api.Params {
	return [categories]api.Params{params(7, 4, 10, 0), params(3, 4, 10, 0), params(2, 3, 4, 94), params(2, 2, 3, 47)}
}

// plain is a beacon that announces no switch, with a name of 4 octets and an empty map.
func plain() api.Beacon {
	return api.Beacon{Stamp: 258, Interval: 100, Name: "home", Channel: 6, Load: 3, Tim: api.Tim{Period: 1}, Params: defaults()}
}

// full is a beacon in which everything has a value of its own.
func full() api.Beacon {
	return api.Beacon{
		Stamp: 0x123456, Interval: 0x789a, Name: name(longestName), Channel: 8, Load: 0xbcde,
		Tim:    api.Tim{Count: 4, Period: 7, Group: true, Set: allSet},
		Switch: api.Switch{Channel: 5, Count: 17},
		Params: [categories]api.Params{params(15, 1, 2, 0x1234), params(14, 3, 4, 0x2345), params(13, 5, 6, 0x3456), params(12, 7, 8, 0x4567)},
	}
}

// least and greatest are the beacons whose numbers are the least and the greatest ones.
func least() api.Beacon {
	p := params(2, 0, 0, 0)
	return api.Beacon{Interval: 1, Name: "\x00", Channel: 1, Tim: api.Tim{Period: 1}, Params: [categories]api.Params{p, p, p, p}}
}

func greatest() api.Beacon {
	p := params(15, 10, 10, mostWait)
	return api.Beacon{
		Stamp: lastSlot, Interval: mostInterval, Name: strings.Repeat("\xff", longestName), Channel: lastChannel, Load: mostLoad,
		Tim:    api.Tim{Count: longestPeriod - 1, Period: longestPeriod, Group: true, Set: allSet},
		Switch: api.Switch{Channel: lastChannel, Count: mostCount},
		Params: [categories]api.Params{p, p, p, p},
	}
}

// samples are valid beacons of every sort.
func samples() []api.Beacon {
	announcing := plain()
	announcing.Switch = api.Switch{Channel: 2}
	silent := full()
	silent.Switch = api.Switch{}
	return []api.Beacon{plain(), announcing, full(), silent, least(), greatest()}
}

// anyOf returns one of the ends of a range, or any number of it.
func anyOf(r *rand.Rand, low, high int) int {
	switch r.Intn(6) {
	case 0:
		return low
	case 1:
		return high
	}
	return low + r.Intn(high-low+1)
}

// randomBeacon returns a valid beacon.
func randomBeacon(r *rand.Rand) api.Beacon {
	octets := make([]byte, anyOf(r, 1, longestName))
	r.Read(octets)
	b := api.Beacon{
		Stamp: anyOf(r, 0, lastSlot), Interval: anyOf(r, 1, mostInterval), Name: string(octets),
		Channel: anyOf(r, 1, lastChannel), Load: anyOf(r, 0, mostLoad),
	}
	period := anyOf(r, 1, longestPeriod)
	set := r.Uint64() & r.Uint64() >> r.Intn(64) << r.Intn(64)
	b.Tim = api.Tim{Count: anyOf(r, 0, period-1), Period: period, Group: r.Intn(2) == 1, Set: set &^ 1}
	if r.Intn(2) == 1 {
		b.Switch = api.Switch{Channel: anyOf(r, 1, lastChannel), Count: anyOf(r, 0, mostCount)}
	}
	for i := range b.Params {
		most := anyOf(r, 0, 10)
		b.Params[i] = params(anyOf(r, 2, 15), anyOf(r, 0, most), most, anyOf(r, 0, mostWait))
	}
	return b
}

// checked is what the chapter says of Check, with the limits written out.
func checked(b api.Beacon) api.Errno {
	type step struct {
		fine bool
		e    api.Errno
	}
	steps := []step{
		{0 <= b.Stamp && b.Stamp <= lastSlot, api.ErrRange},
		{1 <= b.Interval && b.Interval <= mostInterval, api.ErrRange},
		{len(b.Name) != 0, api.ErrShort},
		{len(b.Name) <= longestName, api.ErrLong},
		{1 <= b.Channel && b.Channel <= lastChannel, api.ErrRange},
		{0 <= b.Load && b.Load <= mostLoad, api.ErrRange},
		{tim.Check(b.Tim) == api.OK, tim.Check(b.Tim)},
		{0 <= b.Switch.Channel && b.Switch.Channel <= lastChannel, api.ErrRange},
		{0 <= b.Switch.Count && b.Switch.Count <= mostCount, api.ErrRange},
		{b.Switch.Channel != 0 || b.Switch.Count == 0, api.ErrForm},
	}
	for _, p := range b.Params {
		steps = append(steps,
			step{2 <= p.Aifsn && p.Aifsn <= 15, api.ErrRange},
			step{0 <= p.Min && p.Min <= 10 && 0 <= p.Max && p.Max <= 10 && p.Min <= p.Max, api.ErrRange},
			step{0 <= p.Txop && p.Txop <= mostWait, api.ErrRange})
	}
	for _, s := range steps {
		if !s.fine {
			return s.e
		}
	}
	return api.OK
}

// little are the octets of n, the least significant one first.
func little(n, size int) string {
	s := ""
	for range size {
		s += string([]byte{byte(n % 256)})
		n /= 256
	}
	return s
}

// piece are the octets of an element.
func piece(id int, data string) string {
	return little(id, 1) + little(len(data), 1) + data
}

// start are the octets before the elements of a beacon.
func start(b api.Beacon) string {
	return little(b.Stamp, 4) + little(b.Interval, 2)
}

// pieces are the octets of each element of a valid beacon.
func pieces(b api.Beacon) []string {
	m, _ := tim.Encode(b.Tim)
	all := ""
	for _, p := range b.Params {
		all += little(p.Aifsn, 1) + little(p.Min, 1) + little(p.Max, 1) + little(p.Txop, 2)
	}
	l := []string{piece(0, b.Name), piece(3, little(b.Channel, 1)), piece(5, m), piece(11, little(b.Load, 2)), piece(12, all)}
	if b.Switch.Channel != 0 {
		l = append(l, piece(37, little(b.Switch.Channel, 1)+little(b.Switch.Count, 1)))
	}
	return l
}

// octetsOf are the octets of a valid beacon as the chapter defines them.
func octetsOf(b api.Beacon) string {
	return start(b) + strings.Join(pieces(b), "")
}

// wantCheck checks the result of Check, and that Encode returns the same error.
func wantCheck(t *testing.T, b api.Beacon, want api.Errno) {
	t.Helper()
	if e := Check(b); e != want {
		t.Fatalf("Check(%#v) = %d, not %d", b, e, want)
	}
	s, e := Encode(b)
	if e != want {
		t.Fatalf("Encode(%#v) has the error %d, not %d", b, e, want)
	}
	if want != api.OK && s != "" {
		t.Fatalf("Encode(%#v) has the error %d, and the octets %x", b, e, s)
	}
}

// tryBeacon compares all that the chapter says of a beacon, valid or not.
func tryBeacon(t *testing.T, b api.Beacon) {
	t.Helper()
	want := checked(b)
	wantCheck(t, b, want)
	if want == api.OK {
		wantOctets(t, b, octetsOf(b))
	}
}

// wantOctets checks that these are the octets of b, in both directions.
func wantOctets(t *testing.T, b api.Beacon, want string) {
	t.Helper()
	if s, e := Encode(b); s != want || e != api.OK {
		t.Fatalf("Encode(%#v) = %x, %d, not %x and OK", b, s, e, want)
	}
	wantDecode(t, want, b, api.OK)
}

// wantDecode checks the result of Decode: the beacon, or no beacon together with an error.
func wantDecode(t *testing.T, s string, want api.Beacon, wantErr api.Errno) {
	t.Helper()
	if b, e := Decode(s); b != want || e != wantErr {
		t.Fatalf("Decode(%x) = %#v, %d, not %#v and %d", s, b, e, want, wantErr)
	}
}

// wantError checks that Decode returns an error, and no beacon.
func wantError(t *testing.T, s string, e api.Errno) {
	t.Helper()
	wantDecode(t, s, api.Beacon{}, e)
}

// field is a number of a beacon that may be anything from low to high if the other fields are those of roomy.
type field struct {
	set       func(*api.Beacon, int)
	low, high int
}

// roomy is a beacon in which each field alone may have every value that it can have at all.
func roomy() api.Beacon {
	p := params(4, 0, 10, 5)
	b := plain()
	b.Params = [categories]api.Params{p, p, p, p}
	return b
}

// fields are the numbers of a beacon; one of them is the Count of a switch without a Channel, and two are Min and Max against each other.
func fields() []field {
	l := []field{
		{func(b *api.Beacon, n int) { b.Stamp = n }, 0, 1 << 24},
		{func(b *api.Beacon, n int) { b.Interval = n }, 1, 65535},
		{func(b *api.Beacon, n int) { b.Channel = n }, 1, 8},
		{func(b *api.Beacon, n int) { b.Load = n }, 0, 65535},
		{func(b *api.Beacon, n int) { b.Tim.Count, b.Tim.Period = n, 255 }, 0, 254},
		{func(b *api.Beacon, n int) { b.Tim.Period = n }, 1, 255},
		{func(b *api.Beacon, n int) { b.Switch.Channel = n }, 0, 8},
		{func(b *api.Beacon, n int) { b.Switch = api.Switch{Channel: 1, Count: n} }, 0, 255},
		{func(b *api.Beacon, n int) { b.Switch.Count = n }, 0, 0},
	}
	for cat := range categories {
		l = append(l,
			field{func(b *api.Beacon, n int) { b.Params[cat].Aifsn = n }, 2, 15},
			field{func(b *api.Beacon, n int) { b.Params[cat].Min = n }, 0, 10},
			field{func(b *api.Beacon, n int) { b.Params[cat].Max = n }, 0, 10},
			field{func(b *api.Beacon, n int) { b.Params[cat].Txop = n }, 0, 32767},
			field{func(b *api.Beacon, n int) { b.Params[cat].Min, b.Params[cat].Max = n, 6 }, 0, 6},
			field{func(b *api.Beacon, n int) { b.Params[cat].Min, b.Params[cat].Max = 6, n }, 6, 10})
	}
	return l
}

// far are ints that no field may have; some are valid numbers modulo 2^8, 2^16 or 2^32.
var far = []int{
	math.MinInt, math.MinInt + 1, math.MinInt + 5, -1<<32 + 5, math.MinInt32, -1<<24 + 5, -65536 + 5, -256 + 5, -5, -2, -1,
	1<<24 + 2, 1<<24 + 5, 1<<25 + 5, math.MaxInt32, 1<<31 + 5, 1 << 32, 1<<32 + 1, 1<<32 + 5, 1<<40 + 5, math.MaxInt - 1, math.MaxInt,
}

// P14.1

func TestCheckOfSamples(t *testing.T) {
	for _, b := range samples() {
		wantCheck(t, b, api.OK)
		tryBeacon(t, b)
	}
	wantCheck(t, roomy(), api.OK)
	wantCheck(t, api.Beacon{}, api.ErrRange)
}

func TestCheckAtTheLimits(t *testing.T) {
	for _, f := range fields() {
		try := func(n int, want api.Errno) {
			t.Helper()
			b := roomy()
			f.set(&b, n)
			wantCheck(t, b, want)
			tryBeacon(t, b)
		}
		for _, n := range far {
			try(n, api.ErrRange)
		}
		try(f.low-1, api.ErrRange)
		for n := f.low; n <= f.high && n <= f.low+300; n++ {
			try(n, api.OK)
		}
		for n := max(f.low, f.high-300); n <= f.high; n++ {
			try(n, api.OK)
		}
		if f.low == f.high {
			// Without a Channel, a Count of a switch is in its range, but out of place.
			try(1, api.ErrForm)
			try(255, api.ErrForm)
			try(256, api.ErrRange)
			continue
		}
		try(f.high+1, api.ErrRange)
		try(f.high+256, api.ErrRange)
		try(f.high+65536, api.ErrRange)
	}
}

// Every value near a limit in several beacons, in which the other fields may be at their limits, too.
func TestCheckOfFieldsInSamples(t *testing.T) {
	for _, b := range samples() {
		for _, f := range fields() {
			for n := -3; n <= 260; n++ {
				c := b
				f.set(&c, n)
				tryBeacon(t, c)
				f.set(&c, f.high+n)
				tryBeacon(t, c)
			}
			for _, n := range far {
				c := b
				f.set(&c, n)
				tryBeacon(t, c)
			}
		}
	}
}

func TestCheckOfNames(t *testing.T) {
	b := plain()
	for n := range 300 {
		want := api.OK
		switch {
		case n == 0:
			want = api.ErrShort
		case n > 32:
			want = api.ErrLong
		}
		b.Name = name(n)
		wantCheck(t, b, want)
		b.Name = strings.Repeat("\x00", n)
		wantCheck(t, b, want)
	}
	for _, n := range []int{512, 512 + 5, 65536, 65536 + 5, 1 << 20} {
		b.Name = name(n)
		wantCheck(t, b, api.ErrLong)
	}
}

func TestCheckOfMaps(t *testing.T) {
	for _, x := range []struct {
		m    api.Tim
		want api.Errno
	}{
		{api.Tim{Period: 1}, api.OK},
		{api.Tim{}, api.ErrRange},
		{api.Tim{Count: 3, Period: 3}, api.ErrRange},
		{api.Tim{Count: 2, Period: 3}, api.OK},
		{api.Tim{Count: -1, Period: 3}, api.ErrRange},
		{api.Tim{Count: 254, Period: 255}, api.OK},
		{api.Tim{Count: 255, Period: 255}, api.ErrRange},
		{api.Tim{Count: 255, Period: 256}, api.ErrRange},
		{api.Tim{Period: 256}, api.ErrRange},
		{api.Tim{Period: 1, Set: 1}, api.ErrForm},
		{api.Tim{Period: 1, Set: 3}, api.ErrForm},
		{api.Tim{Period: 1, Group: true, Set: math.MaxUint64}, api.ErrForm},
		{api.Tim{Period: 1, Group: true, Set: allSet}, api.OK},
		{api.Tim{Count: 3, Period: 3, Set: 1}, api.ErrRange},
		{api.Tim{Set: 1}, api.ErrRange},
	} {
		for _, b := range samples() {
			b.Tim = x.m
			wantCheck(t, b, x.want)
			tryBeacon(t, b)
		}
	}
}

func TestCheckOfSwitches(t *testing.T) {
	for channel := -2; channel <= 300; channel++ {
		for _, count := range []int{math.MinInt, -256, -255, -2, -1, 0, 1, 2, 128, 254, 255, 256, 257, 511, 512, 65536, 1 << 32, math.MaxInt} {
			want := api.OK
			switch {
			case channel < 0 || channel > 8 || count < 0 || count > 255:
				want = api.ErrRange
			case channel == 0 && count != 0:
				want = api.ErrForm
			}
			for _, b := range samples() {
				b.Switch = api.Switch{Channel: channel, Count: count}
				wantCheck(t, b, want)
			}
		}
	}
}

func TestCheckOfMinAgainstMax(t *testing.T) {
	for cat := range categories {
		for _, least := range append([]int{math.MinInt, math.MaxInt, 255, 256, 266, 1 << 32}, span(-2, 13)...) {
			for _, most := range append([]int{math.MinInt, math.MaxInt, 255, 256, 266, 1<<32 + 10}, span(-2, 13)...) {
				want := api.ErrRange
				if 0 <= least && least <= most && most <= 10 {
					want = api.OK
				}
				for _, b := range samples() {
					b.Params[cat].Min, b.Params[cat].Max = least, most
					wantCheck(t, b, want)
				}
			}
		}
	}
}

// span are the numbers from low to high.
func span(low, high int) []int {
	var l []int
	for n := low; n <= high; n++ {
		l = append(l, n)
	}
	return l
}

// fault makes a beacon invalid in one respect.
type fault struct {
	name string
	make func(*api.Beacon)
	e    api.Errno
}

// faults are in the order in which Check looks for them.
func faults() []fault {
	l := []fault{
		{"Stamp", func(b *api.Beacon) { b.Stamp = -1 }, api.ErrRange},
		{"Stamp", func(b *api.Beacon) { b.Stamp = lastSlot + 1 }, api.ErrRange},
		{"Interval", func(b *api.Beacon) { b.Interval = 0 }, api.ErrRange},
		{"Interval", func(b *api.Beacon) { b.Interval = mostInterval + 1 }, api.ErrRange},
		{"no Name", func(b *api.Beacon) { b.Name = "" }, api.ErrShort},
		{"a long Name", func(b *api.Beacon) { b.Name = name(longestName + 1) }, api.ErrLong},
		{"Channel", func(b *api.Beacon) { b.Channel = 0 }, api.ErrRange},
		{"Channel", func(b *api.Beacon) { b.Channel = lastChannel + 1 }, api.ErrRange},
		{"Load", func(b *api.Beacon) { b.Load = -1 }, api.ErrRange},
		{"Load", func(b *api.Beacon) { b.Load = mostLoad + 1 }, api.ErrRange},
		{"Tim.Period", func(b *api.Beacon) { b.Tim.Period = longestPeriod + 1 }, api.ErrRange},
		{"Tim.Count", func(b *api.Beacon) { b.Tim.Count = b.Tim.Period }, api.ErrRange},
		{"Tim.Set", func(b *api.Beacon) { b.Tim.Set |= 1 }, api.ErrForm},
		{"Switch.Channel", func(b *api.Beacon) { b.Switch.Channel = -1 }, api.ErrRange},
		{"Switch.Channel", func(b *api.Beacon) { b.Switch.Channel = lastChannel + 1 }, api.ErrRange},
		{"Switch.Count", func(b *api.Beacon) { b.Switch.Count = -1 }, api.ErrRange},
		{"Switch.Count", func(b *api.Beacon) { b.Switch.Count = mostCount + 1 }, api.ErrRange},
		{"Switch without Channel", func(b *api.Beacon) { b.Switch = api.Switch{Count: 1} }, api.ErrForm},
	}
	for cat := range categories {
		p := func(b *api.Beacon) *api.Params { return &b.Params[cat] }
		l = append(l,
			fault{"Aifsn", func(b *api.Beacon) { p(b).Aifsn = 1 }, api.ErrRange},
			fault{"Aifsn", func(b *api.Beacon) { p(b).Aifsn = 16 }, api.ErrRange},
			fault{"Min", func(b *api.Beacon) { p(b).Min = -1 }, api.ErrRange},
			fault{"Max", func(b *api.Beacon) { p(b).Max = 11 }, api.ErrRange},
			fault{"Min above Max", func(b *api.Beacon) { p(b).Min, p(b).Max = 6, 5 }, api.ErrRange},
			fault{"Txop", func(b *api.Beacon) { p(b).Txop = -1 }, api.ErrRange},
			fault{"Txop", func(b *api.Beacon) { p(b).Txop = mostWait + 1 }, api.ErrRange})
	}
	return l
}

func TestCheckOfPairsOfFaults(t *testing.T) {
	for i, first := range faults() {
		for _, b := range samples() {
			first.make(&b)
			wantCheck(t, b, first.e)
		}
		for _, second := range faults()[i+1:] {
			for _, b := range samples() {
				// The first fault is put in last, so that the second one, which may be in the same field, cannot repair it.
				second.make(&b)
				first.make(&b)
				if e := Check(b); e != first.e {
					t.Fatalf("Check with the faults %s and %s is %d, not %d", first.name, second.name, e, first.e)
				}
				wantCheck(t, b, first.e)
				tryBeacon(t, b)
			}
		}
	}
}

// A beacon with everything wrong is repaired step by step.
func TestCheckOfAllFaults(t *testing.T) {
	l := faults()
	for from := range l {
		b := full()
		for i := len(l) - 1; i >= from; i-- {
			l[i].make(&b)
		}
		wantCheck(t, b, l[from].e)
	}
}

// P14.2

func TestEncodeOfTheExample(t *testing.T) {
	s, e := Encode(plain())
	if len(s) != 47 || e != api.OK {
		t.Fatalf("Encode of the example has %d octets and the error %d", len(s), e)
	}
	wantOctets(t, plain(), "\x02\x01\x00\x00\x64\x00"+"\x00\x04home"+"\x03\x01\x06"+"\x05\x04\x00\x01\x00\x00"+"\x0b\x02\x03\x00"+
		"\x0c\x14\x07\x04\x0a\x00\x00\x03\x04\x0a\x00\x00\x02\x03\x04\x5e\x00\x02\x02\x03\x2f\x00")
}

func TestEncodeWithASwitch(t *testing.T) {
	b := plain()
	without, _ := Encode(b)
	for channel := 1; channel <= lastChannel; channel++ {
		for count := range mostCount + 1 {
			b.Switch = api.Switch{Channel: channel, Count: count}
			wantOctets(t, b, without+"\x25\x02"+string([]byte{byte(channel), byte(count)}))
		}
	}
}

func TestEncodeOfEverything(t *testing.T) {
	b := full()
	b.Name = "\x00\xffxy"
	head := "\x56\x34\x12\x00\x9a\x78" + "\x00\x04\x00\xffxy" + "\x03\x01\x08"
	tail := "\x0b\x02\xde\xbc" + "\x0c\x14\x0f\x01\x02\x34\x12\x0e\x03\x04\x45\x23\x0d\x05\x06\x56\x34\x0c\x07\x08\x67\x45"
	announced := "\x25\x02\x05\x11"
	wantOctets(t, b, head+"\x05\x0b\x04\x07\x01\xfe\xff\xff\xff\xff\xff\xff\xff"+tail+announced)
	b.Switch = api.Switch{}
	wantOctets(t, b, head+"\x05\x0b\x04\x07\x01\xfe\xff\xff\xff\xff\xff\xff\xff"+tail)
	b.Tim = api.Tim{Period: 2, Group: true, Set: 1<<17 + 1<<31}
	wantOctets(t, b, head+"\x05\x05\x00\x02\x03\x02\x80"+tail)
	b.Tim = api.Tim{Count: 254, Period: 255}
	wantOctets(t, b, head+"\x05\x04\xfe\xff\x00\x00"+tail)
}

func TestEncodeOfLeastAndGreatest(t *testing.T) {
	p := "\x02\x00\x00\x00\x00"
	wantOctets(t, least(), "\x00\x00\x00\x00\x01\x00"+"\x00\x01\x00"+"\x03\x01\x01"+"\x05\x04\x00\x01\x00\x00"+"\x0b\x02\x00\x00"+"\x0c\x14"+p+p+p+p)
	p = "\x0f\x0a\x0a\xff\x7f"
	wantOctets(t, greatest(), "\x00\x00\x00\x01\xff\xff"+"\x00\x20"+strings.Repeat("\xff", 32)+"\x03\x01\x08"+
		"\x05\x0b\xfe\xff\x01\xfe\xff\xff\xff\xff\xff\xff\xff"+"\x0b\x02\xff\xff"+"\x0c\x14"+p+p+p+p+"\x25\x02\x08\xff")
}

func TestEncodeOfEveryName(t *testing.T) {
	for _, b := range samples() {
		for n := 1; n <= longestName; n++ {
			b.Name = name(n)
			wantOctets(t, b, octetsOf(b))
			s, _ := Encode(b)
			if want := "\x00" + string([]byte{byte(n)}) + name(n) + "\x03\x01"; s[6:6+len(want)] != want {
				t.Fatalf("Encode of a name of %d octets gives %x", n, s)
			}
		}
	}
}

func TestEncodeOfEveryOctet(t *testing.T) {
	b := plain()
	for first := range 256 {
		for second := range 256 {
			b.Name = string([]byte{byte(first), byte(second)})
			b.Load = 256*first + second
			wantOctets(t, b, octetsOf(b))
		}
	}
}

func TestEncodeOfMaps(t *testing.T) {
	for _, b := range samples() {
		for from := 1; from < 64; from++ {
			for to := from; to < 64; to++ {
				b.Tim.Set = 1<<from | 1<<to
				tryBeacon(t, b)
				b.Tim.Set = allSet >> from << from << (63 - to) >> (63 - to)
				tryBeacon(t, b)
			}
		}
	}
}

// P14.4

func TestDefault(t *testing.T) {
	p := Default()
	if p != defaults() {
		t.Fatalf("Default() = %#v, not %#v", p, defaults())
	}
	if p[api.Background].Aifsn != 7 || p[api.BestEffort].Aifsn != 3 || p[api.Video].Txop != 94 || p[api.Voice].Txop != 47 {
		t.Fatalf("the categories of Default() are %#v", p)
	}
	b := plain()
	b.Params = Default()
	wantCheck(t, b, api.OK)
}

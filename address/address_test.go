package address

import (
	"encoding/binary"
	"fmt"
	"math"
	"math/rand"
	"regexp"
	"strings"
	"testing"

	"airtime/api"
	"airtime/wire"
)

// largest is the greatest number that an api.Addr holds.
const largest = api.Addr(math.MaxUint64)

// nodeOctets are the first five octets of the addresses of all nodes.
const nodeOctets = "\x02\x00\x00\x00\x00"

// known are numbers below 2^48 with their texts and octets, written out.
var known = []struct {
	a            api.Addr
	text, octets string
}{
	{0, "00:00:00:00:00:00", "\x00\x00\x00\x00\x00\x00"},
	{1, "00:00:00:00:00:01", "\x00\x00\x00\x00\x00\x01"},
	{0x0123456789ab, "01:23:45:67:89:ab", "\x01\x23\x45\x67\x89\xab"},
	{0xfedcba987654, "fe:dc:ba:98:76:54", "\xfe\xdc\xba\x98\x76\x54"},
	{0x0a0b0c0d0e0f, "0a:0b:0c:0d:0e:0f", "\x0a\x0b\x0c\x0d\x0e\x0f"},
	{0xa0b0c0d0e0f0, "a0:b0:c0:d0:e0:f0", "\xa0\xb0\xc0\xd0\xe0\xf0"},
	{2199023255553, "02:00:00:00:00:01", "\x02\x00\x00\x00\x00\x01"},
	{2199023255568, "02:00:00:00:00:10", "\x02\x00\x00\x00\x00\x10"},
	{1 << 40, "01:00:00:00:00:00", "\x01\x00\x00\x00\x00\x00"},
	{1 << 47, "80:00:00:00:00:00", "\x80\x00\x00\x00\x00\x00"},
	{281474976710655, "ff:ff:ff:ff:ff:ff", "\xff\xff\xff\xff\xff\xff"},
}

// tooLarge are numbers from 2^48 on, some of them with the lower 48 bits of addresses of nodes and of group addresses.
func tooLarge() []api.Addr {
	l := []api.Addr{1 << 48, 1<<48 + 1, 1<<48 | 1<<40, 1<<48 | 2<<40 + 1, 1<<63 | 2<<40 + 16, 0xffff<<48 | 2<<40 + 1, 2<<48 - 1, largest - 1, largest, 0xffff << 48}
	for i := 48; i < 64; i++ {
		l = append(l, 1<<i, 1<<i|0x0123456789ab, largest>>(63-i))
	}
	return l
}

// samples are numbers below 2^48: those of known, single bits, their complements, the neighbours of the addresses of nodes, and others; it is the same list in every run.
func samples() []api.Addr {
	r := rand.New(rand.NewSource(1))
	var l []api.Addr
	for _, c := range known {
		l = append(l, c.a)
	}
	for i := range 48 {
		l = append(l, 1<<i, Broadcast^1<<i, Broadcast>>i, Broadcast<<i&Broadcast)
	}
	for n := -3; n < api.MaxNodes+3; n++ {
		l = append(l, nodeAddress(n))
	}
	for range 2000 {
		l = append(l, api.Addr(r.Int63())&Broadcast)
	}
	return l
}

// nodeAddress is the address of node n as the chapter defines it, continued to numbers that are no nodes.
func nodeAddress(n int) api.Addr {
	return api.Addr(2*int64(1<<40) + int64(n) + 1)
}

// octetsOf are the octets of a, which is below 2^48.
func octetsOf(a api.Addr) string {
	return string(binary.BigEndian.AppendUint64(nil, uint64(a))[2:])
}

// textOf is the text of a, which is below 2^48.
func textOf(a api.Addr) string {
	o := octetsOf(a)
	return fmt.Sprintf("%02x:%02x:%02x:%02x:%02x:%02x", o[0], o[1], o[2], o[3], o[4], o[5])
}

// P5.1

func TestBroadcast(t *testing.T) {
	if Broadcast != 281474976710655 || !Valid(Broadcast) || !Group(Broadcast) {
		t.Error("Broadcast:", Broadcast, Valid(Broadcast), Group(Broadcast))
	}
}

func TestValidAndGroupOfKnownAddresses(t *testing.T) {
	for _, c := range []struct {
		a            api.Addr
		valid, group bool
	}{
		{0, false, false},
		{1, true, false},
		{1<<40 - 1, true, false},
		{1 << 40, true, true},
		{1<<41 - 1, true, true},
		{1 << 41, true, false},
		{3 << 40, true, true},
		{0x0123456789ab, true, true},
		{0xfedcba987654, true, false},
		{0xffdcba987654, true, true},
		{0xfeffffffffff, true, false},
		{Broadcast - 1, true, true},
		{Broadcast, true, true},
		{Broadcast + 1, false, false},
		{largest, false, false},
	} {
		if Valid(c.a) != c.valid || Group(c.a) != c.group {
			t.Errorf("%#x: Valid %v, Group %v, want %v, %v", c.a, Valid(c.a), Group(c.a), c.valid, c.group)
		}
	}
}

func TestValidAndGroup(t *testing.T) {
	for _, a := range samples() {
		if Valid(a) != (a != 0) {
			t.Errorf("Valid(%#x) = %v", a, Valid(a))
		}
		if want := octetsOf(a)[0]%2 == 1; Group(a) != want {
			t.Errorf("Group(%#x) = %v, want %v", a, Group(a), want)
		}
	}
	for _, a := range tooLarge() {
		if Valid(a) || Group(a) {
			t.Errorf("%#x: Valid %v, Group %v", a, Valid(a), Group(a))
		}
	}
}

// P5.2

func TestNode(t *testing.T) {
	if a := Node(0); a != 2199023255553 || Text(a) != "02:00:00:00:00:01" {
		t.Errorf("Node(0) = %#x, %s", a, Text(a))
	}
	for n := range api.MaxNodes {
		want := nodeOctets + string([]byte{byte(n + 1)})
		if a := Node(n); a != nodeAddress(n) || octetsOf(a) != want {
			t.Errorf("Node(%d) = %#x, want the octets %x", n, a, want)
		}
	}
}

func TestNodeOutside(t *testing.T) {
	for _, n := range []int{-1, -2, -16, 16, 17, 255, 256, 1 << 8, 1 << 32, -(1 << 32), -1 << 41, -2<<40 - 1, math.MinInt, math.MaxInt} {
		if a := Node(n); a != 0 {
			t.Errorf("Node(%d) = %#x, want 0", n, a)
		}
	}
}

func TestNumber(t *testing.T) {
	for n := range api.MaxNodes {
		if k, ok := Number(nodeAddress(n)); k != n || !ok {
			t.Errorf("Number(%#x) = %d, %v, want %d", nodeAddress(n), k, ok, n)
		}
	}
}

func TestNumberOfNoNode(t *testing.T) {
	l := []api.Addr{0, 1, 16, 1 << 40, 2 << 40, 2<<40 - 1, 2<<40 + 17, 2<<40 + 18, 2<<40 + 1<<8 + 1, 3<<40 + 1, 1<<40 + 1, 4<<40 + 1, Broadcast}
	for i := range 64 {
		for n := range api.MaxNodes {
			a := Node(n) ^ 1<<i
			if a <= 2<<40 || a > 2<<40+16 {
				l = append(l, a)
			}
		}
	}
	for _, a := range append(l, tooLarge()...) {
		if n, ok := Number(a); n != 0 || ok {
			t.Errorf("Number(%#x) = %d, %v, want 0, false", a, n, ok)
		}
	}
	for _, a := range samples() {
		n, ok := Number(a)
		o := octetsOf(a)
		want := strings.HasPrefix(o, nodeOctets) && o[5] >= 1 && o[5] <= 16
		if ok != want || !ok && n != 0 {
			t.Errorf("Number(%#x) = %d, %v, want %v", a, n, ok, want)
		}
	}
}

// P5.3

func TestText(t *testing.T) {
	for _, c := range known {
		if s := Text(c.a); s != c.text {
			t.Errorf("Text(%#x) = %q, want %q", c.a, s, c.text)
		}
	}
	for _, a := range samples() {
		if s := Text(a); s != textOf(a) {
			t.Errorf("Text(%#x) = %q, want %q", a, s, textOf(a))
		}
	}
}

// Every octet has its own digits in every place.
func TestTextOfEachOctet(t *testing.T) {
	for place := range 6 {
		for octet := range 256 {
			a := api.Addr(octet) << (8 * (5 - place))
			want := strings.Repeat("00:", place) + fmt.Sprintf("%02x", octet) + strings.Repeat(":00", 5-place)
			if s := Text(a); s != want {
				t.Errorf("Text(%#x) = %q, want %q", a, s, want)
			}
		}
	}
}

func TestTextOfTooLarge(t *testing.T) {
	for _, a := range tooLarge() {
		if s := Text(a); s != "" {
			t.Errorf("Text(%#x) = %q, want none", a, s)
		}
	}
}

// P5.4

// form is the form of all texts.
var form = regexp.MustCompile(`\A[0-9a-f]{2}(:[0-9a-f]{2}){5}\z`)

// parses fails the test unless Parse accepts s exactly if it is a text, and then returns the address with this text.
func parses(t *testing.T, s string) {
	t.Helper()
	a, e := Parse(s)
	if !form.MatchString(s) {
		if a != 0 || e != api.ErrForm {
			t.Errorf("Parse(%q) = %#x, %d, want 0, ErrForm", s, a, e)
		}
		return
	}
	if e != api.OK || a > Broadcast || textOf(a) != s {
		t.Errorf("Parse(%q) = %#x, %d", s, a, e)
	}
}

func TestParse(t *testing.T) {
	for _, c := range known {
		if a, e := Parse(c.text); a != c.a || e != api.OK {
			t.Errorf("Parse(%q) = %#x, %d, want %#x", c.text, a, e, c.a)
		}
	}
}

func TestParseRejects(t *testing.T) {
	for _, s := range []string{
		"", ":", "0", "00", "00:", ":::::", "-", "broadcast",
		"02:00:00:00:00:0A", "FF:FF:FF:FF:FF:FF", "ff:ff:ff:ff:ff:fF", "0A:00:00:00:00:00",
		"02:00:00:00:00", "02:00:00:00:00:", "02:00:00:00:00:0", "02:00:00:00:00:01:", "02:00:00:00:00:01:00", ":02:00:00:00:00:01",
		"2:0:0:0:0:1", "002:00:00:00:00:1", "02:0:000:00:00:01", "020:0:00:00:00:01", ":2:00:00:00:00:01", "02::0:00:00:00:01", "02:00:00:00:00:1:",
		"02-00-00-00-00-01", "02.00.00.00.00.01", "02;00;00;00;00;01", "02 00 00 00 00 01", "02:00:00:00:00-01", "0200:0000:0001",
		"020000000001", "02000000000000001", "0x020000000001", "2199023255553",
		" 2:00:00:00:00:01", "02:00:00:00:00:1 ", "+2:00:00:00:00:01", "-2:00:00:00:00:01", "02:00:00:00:00:01 ", " 02:00:00:00:00:01", "02:00:00:00:00:01\n", "02:00:00:00:00:01\x00",
		"0g:00:00:00:00:01", "02:00:00:00:00:0`", "02:00:00:00:00:0/", "02:00:00:00:00:0:", "0x:00:00:00:00:01", "0_:00:00:00:00:01",
		"02:00:00:00:00:é", "٠٢:00:00:00:01", "02\uff1a00:00:00:01", "02:00:00:00:00:\xff\xff", strings.Repeat("\x00", 17), strings.Repeat("0", 17), strings.Repeat(":", 17),
	} {
		if a, e := Parse(s); a != 0 || e != api.ErrForm {
			t.Errorf("Parse(%q) = %#x, %d, want 0, ErrForm", s, a, e)
		}
	}
}

func TestParseOfOtherLengths(t *testing.T) {
	for _, long := range []string{strings.Repeat("00:", 20), strings.Repeat("00:", 6) + strings.Repeat("0", 100), strings.Repeat("a", 300), strings.Repeat("01:23:45:67:89:ab", 20)} {
		for n := range len(long) + 1 {
			parses(t, long[:n])
			parses(t, long[len(long)-n:])
		}
	}
	parses(t, strings.Repeat("00:", 1<<20))
}

// A text is replaced by all that differs from it in one octet, and shortened and extended at every place.
func TestParseAcceptsNothingElse(t *testing.T) {
	for _, c := range known {
		for i := range len(c.text) {
			parses(t, c.text[:i]+c.text[i+1:])
			for octet := range 256 {
				other := string([]byte{byte(octet)})
				parses(t, c.text[:i]+other+c.text[i+1:])
				parses(t, c.text[:i]+other+c.text[i:])
				parses(t, c.text[:i]+other+other+c.text[min(i+2, len(c.text)):])
			}
		}
	}
}

// What is wrong in one place is not made good by another one.
func TestParseOfShuffledTexts(t *testing.T) {
	r := rand.New(rand.NewSource(2))
	for range 20000 {
		s := []byte(textOf(api.Addr(r.Int63()) & Broadcast))
		i, k := r.Intn(len(s)), r.Intn(len(s))
		s[i], s[k] = s[k], s[i]
		parses(t, string(s))
	}
}

// P5.5

// done fails the test unless w has these octets, or this error.
func done(t *testing.T, w *wire.Writer, want string, wantErr api.Errno) {
	t.Helper()
	if s, e := w.Done(); s != want || e != wantErr {
		t.Errorf("Done() = %x, %d, want %x, %d", s, e, want, wantErr)
	}
}

func TestWrite(t *testing.T) {
	for _, c := range known {
		var w wire.Writer
		Write(&w, c.a)
		done(t, &w, c.octets, api.OK)
	}
	for _, a := range samples() {
		var w wire.Writer
		Write(&w, a)
		done(t, &w, octetsOf(a), api.OK)
	}
}

func TestWriteBetweenOtherOctets(t *testing.T) {
	var w wire.Writer
	w.Num(258, 2)
	Write(&w, 0x0123456789ab)
	w.Text("xy")
	Write(&w, 0)
	Write(&w, Broadcast)
	w.Num(7, 1)
	done(t, &w, "\x02\x01\x01\x23\x45\x67\x89\xabxy\x00\x00\x00\x00\x00\x00\xff\xff\xff\xff\xff\xff\x07", api.OK)
}

func TestWriteTooLarge(t *testing.T) {
	for _, a := range tooLarge() {
		var w wire.Writer
		Write(&w, a)
		done(t, &w, "", api.ErrRange)
		Write(&w, 1)
		w.Text("a")
		Write(&w, a)
		done(t, &w, "", api.ErrRange)

		var begun wire.Writer
		begun.Text("a")
		Write(&begun, 1)
		Write(&begun, a)
		done(t, &begun, "", api.ErrRange)
	}
}

func TestWriteAfterError(t *testing.T) {
	for _, a := range append(samples(), tooLarge()...) {
		var w wire.Writer
		w.Num(256, 1)
		Write(&w, a)
		done(t, &w, "", api.ErrRange)
	}
}

func TestWriteToNil(t *testing.T) {
	for _, a := range append(samples(), tooLarge()...) {
		Write(nil, a)
	}
	var w *wire.Writer
	Write(w, 1)
	done(t, w, "", api.ErrState)
}

// P5.6

// faults are all errors, with numbers that api gives no name.
var faults = []api.Errno{api.ErrShort, api.ErrLong, api.ErrForm, api.ErrRange, api.ErrSum, api.ErrFull, api.ErrNone, api.ErrTwice, api.ErrState, api.ErrRefuse, api.ErrKey, api.ErrOrder, api.ErrBusy, api.ErrLost, api.ErrSlots, -1, 99}

// reads fails the test unless Read returns a, and r has this error and so many octets left then.
func reads(t *testing.T, r *wire.Reader, a api.Addr, left int, e api.Errno) {
	t.Helper()
	if got := Read(r); got != a {
		t.Errorf("Read() = %#x, want %#x", got, a)
	}
	if r.Err() != e || r.Left() != left {
		t.Errorf("after Read: error %d, %d octets left, want %d and %d", r.Err(), r.Left(), e, left)
	}
}

func TestRead(t *testing.T) {
	for _, c := range known {
		reads(t, wire.NewReader(c.octets), c.a, 0, api.OK)
		reads(t, wire.NewReader(c.octets+"\x01"), c.a, 1, api.OK)
	}
	for _, a := range samples() {
		reads(t, wire.NewReader(octetsOf(a)), a, 0, api.OK)
	}
}

func TestReadBetweenOtherOctets(t *testing.T) {
	r := wire.NewReader("\x02\x01\x01\x23\x45\x67\x89\xabxy\x00\x00\x00\x00\x00\x00\xff\xff\xff\xff\xff\xff\x07")
	if n := r.Num(2); n != 258 {
		t.Error("Num(2):", n)
	}
	reads(t, r, 0x0123456789ab, 15, api.OK)
	if s := r.Take(2); s != "xy" {
		t.Error("Take(2):", s)
	}
	reads(t, r, 0, 7, api.OK)
	reads(t, r, Broadcast, 1, api.OK)
	if n := r.Num(1); n != 7 || r.End() != api.OK {
		t.Error("Num(1):", n, r.End())
	}
}

func TestReadTooShort(t *testing.T) {
	for n := range 6 {
		r := wire.NewReader(strings.Repeat("\x01", n))
		reads(t, r, 0, 0, api.ErrShort)
		reads(t, r, 0, 0, api.ErrShort)

		second := wire.NewReader(strings.Repeat("\x01", 6+n))
		reads(t, second, 0x010101010101, n, api.OK)
		reads(t, second, 0, 0, api.ErrShort)
	}
	var zero wire.Reader
	reads(t, &zero, 0, 0, api.ErrShort)
}

func TestReadAfterError(t *testing.T) {
	for _, e := range faults {
		for _, s := range []string{"", "\x01", "\x01\x23\x45\x67\x89\xab", "\x01\x23\x45\x67\x89\xabx"} {
			r := wire.NewReader(s)
			r.Fail(e)
			reads(t, r, 0, 0, e)
		}
	}
}

func TestReadFromNil(t *testing.T) {
	if a := Read(nil); a != 0 {
		t.Errorf("Read(nil) = %#x", a)
	}
	reads(t, nil, 0, 0, api.ErrState)
}

// P5.7

func TestParseOfTextAndReadAfterWrite(t *testing.T) {
	var w wire.Writer
	for _, a := range samples() {
		if b, e := Parse(Text(a)); b != a || e != api.OK {
			t.Errorf("Parse(Text(%#x)) = %#x, %d", a, b, e)
		}
		Write(&w, a)
	}
	s, e := w.Done()
	if e != api.OK || len(s) != 6*len(samples()) {
		t.Fatal("Done:", len(s), e)
	}
	r := wire.NewReader(s)
	for _, a := range samples() {
		if b := Read(r); b != a {
			t.Errorf("Read after Write of %#x = %#x", a, b)
		}
	}
	if e := r.End(); e != api.OK {
		t.Error("End:", e)
	}
}

// P5.8

func TestAddressesOfNodes(t *testing.T) {
	seen := map[api.Addr]int{}
	for n := range api.MaxNodes {
		a := Node(n)
		if !Valid(a) || Group(a) {
			t.Errorf("Node(%d): Valid %v, Group %v", n, Valid(a), Group(a))
		}
		if other, ok := seen[a]; ok {
			t.Errorf("Node(%d) and Node(%d) are both %#x", other, n, a)
		}
		seen[a] = n
		if k, ok := Number(a); k != n || !ok {
			t.Errorf("Number(Node(%d)) = %d, %v", n, k, ok)
		}
	}
}

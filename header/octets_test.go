package header

import (
	"encoding/binary"
	"math"
	"math/rand"
	"strings"
	"testing"

	"airtime/api"
	"airtime/wire"
)

// headerSize is the number of octets of the longest header.
const headerSize = 32

// usedFlags has, for each kind, the greatest octet of flags, in which each flag that the kind uses is set.
var usedFlags = func() [kindCount + 1]int {
	var l [kindCount + 1]int
	for kind, names := range used {
		for _, name := range names {
			l[kind] += flagValues[name]
			if name == "Policy" {
				l[kind] += 64 + 128
			}
		}
	}
	return l
}()

// flagOctet is the octet of the flags of f.
func flagOctet(f api.Frame) byte {
	n := 64 * f.Policy
	for name, value := range flagValues {
		if field(&f, name).Bool() {
			n += value
		}
	}
	return byte(n)
}

// octetsOf are the octets of the header of f as the chapter defines them; f is valid.
func octetsOf(f api.Frame) string {
	b := []byte{byte(f.Kind), flagOctet(f), byte(f.Duration), byte(f.Duration >> 8)}
	for _, name := range used[f.Kind] {
		switch name {
		case "To", "From", "Third":
			b = append(b, binary.BigEndian.AppendUint64(nil, field(&f, name).Uint())[2:]...)
		case "Seq":
			b = binary.LittleEndian.AppendUint16(b, uint16(16*f.Seq+f.Frag))
		case "Cat":
			b = append(b, byte(f.Cat))
		case "Key":
			b = binary.LittleEndian.AppendUint16(b, uint16(f.Key))
		case "Count":
			if f.Key != 0 {
				b = append(b, binary.LittleEndian.AppendUint64(nil, uint64(f.Count))[:5]...)
			}
		}
	}
	return string(b)
}

// number is the number in these octets, the least significant one first.
func number(s string) int {
	n := 0
	for i := range len(s) {
		n += int(s[i]) << (8 * i)
	}
	return n
}

// addressOf is the address with these octets.
func addressOf(s string) api.Addr {
	return api.Addr(binary.BigEndian.Uint64([]byte("\x00\x00" + s)))
}

// frameOf is the frame that Read returns for these octets, with the octets that are left, or the error that Read
// records, as the chapter defines them. Each field has the same place in all headers that contain it.
func frameOf(s string) (f api.Frame, rest string, e api.Errno) {
	if s == "" {
		return f, "", api.ErrShort
	}
	kind := int(s[0])
	if kind < 1 || kind > kindCount {
		return f, "", api.ErrForm
	}
	if len(s) < 2 {
		return f, "", api.ErrShort
	}
	flags := int(s[1])
	if flags&^usedFlags[kind] != 0 {
		return f, "", api.ErrForm
	}
	g := api.Frame{Kind: kind, Retry: flags%2 == 1, More: flags/2%2 == 1, Power: flags/4%2 == 1, Stored: flags/8%2 == 1,
		Last: flags/16%2 == 1, Joined: flags/32%2 == 1, Policy: flags / 64}
	n := chapter[kind-1].length
	if len(s) < n {
		return f, "", api.ErrShort
	}
	g.Duration, g.To = number(s[2:4]), addressOf(s[4:10])
	if n >= 16 {
		g.From = addressOf(s[10:16])
	}
	if n >= 24 {
		g.Third, g.Seq, g.Frag = addressOf(s[16:22]), number(s[22:24])/16, number(s[22:24])%16
	}
	if n >= 25 {
		g.Cat = int(s[24])
	}
	if n >= 27 {
		g.Key = number(s[25:27])
	}
	if g.Key != 0 {
		n = 32
		if len(s) < n {
			return f, "", api.ErrShort
		}
		g.Count = number(s[27:32])
	}
	if e := errorOf(g); e != api.OK {
		return f, "", e
	}
	return g, s[n:], api.OK
}

// written returns what Write appends to an empty Writer.
func written(t *testing.T, f api.Frame) string {
	var w wire.Writer
	Write(&w, f)
	s, e := w.Done()
	if e != api.OK {
		t.Errorf("Write of %+v records %d", f, e)
	}
	return s
}

// wantRead checks that Read of s returns f and leaves rest, or records the error e.
func wantRead(t *testing.T, s string, f api.Frame, rest string, e api.Errno) {
	r := wire.NewReader(s)
	if got := Read(r); got != f || r.Err() != e {
		t.Errorf("Read of %x is %+v with the error %d, want %+v with %d", s, got, r.Err(), f, e)
	}
	if left := r.Rest(); left != rest {
		t.Errorf("Read of %x leaves %x, want %x", s, left, rest)
	}
}

// wantDefined checks that Read of s does as the chapter defines it, and that what it accepts is what Write writes for
// its result.
func wantDefined(t *testing.T, s string) {
	f, rest, e := frameOf(s)
	wantRead(t, s, f, rest, e)
	if e == api.OK {
		if again := written(t, f); again+rest != s {
			t.Errorf("Read accepts %x before %x, for which Write writes %x", s[:len(s)-len(rest)], rest, again)
		}
	}
}

// P10.3

// writtenOut are frames with their octets.
var writtenOut = []struct {
	f      api.Frame
	octets string
}{
	{api.Frame{Kind: api.KindAck, Duration: 5, To: nodeA}, "\x0e\x00\x05\x00\x02\x00\x00\x00\x00\x01"},
	{api.Frame{Kind: api.KindCTS, Duration: 32767, To: every}, "\x0d\x00\xff\x7f\xff\xff\xff\xff\xff\xff"},
	{api.Frame{Kind: api.KindRTS, Duration: 258, To: nodeA, From: 0x123456789a}, "\x0c\x00\x02\x01\x02\x00\x00\x00\x00\x01\x00\x12\x34\x56\x78\x9a"},
	{api.Frame{Kind: api.KindPoll, To: nodeB, From: nodeA}, "\x11\x00\x00\x00\x02\x00\x00\x00\x00\x02\x02\x00\x00\x00\x00\x01"},
	{api.Frame{Kind: api.KindBlockRequest, To: nodeB, From: nodeA, Body: "abc"}, "\x0f\x00\x00\x00\x02\x00\x00\x00\x00\x02\x02\x00\x00\x00\x00\x01"},
	{api.Frame{Kind: api.KindBlockAck, To: nodeB, From: nodeA, Duration: 1}, "\x10\x00\x01\x00\x02\x00\x00\x00\x00\x02\x02\x00\x00\x00\x00\x01"},
	{api.Frame{Kind: api.KindBeacon, To: every, From: nodeA, Third: nodeA, Seq: 1, Body: "x"},
		"\x01\x00\x00\x00\xff\xff\xff\xff\xff\xff\x02\x00\x00\x00\x00\x01\x02\x00\x00\x00\x00\x01\x10\x00"},
	{api.Frame{Kind: api.KindAction, Retry: true, Power: true, To: nodeA, From: nodeB, Third: 3, Seq: 4095},
		"\x0b\x05\x00\x00\x02\x00\x00\x00\x00\x01\x02\x00\x00\x00\x00\x02\x00\x00\x00\x00\x00\x03\xf0\xff"},
	{api.Frame{Kind: api.KindNull, Policy: 1, Stored: true, Last: true, To: nodeA, From: nodeB, Third: nodeC, Seq: 0x123, Cat: 3},
		"\x13\x58\x00\x00\x02\x00\x00\x00\x00\x01\x02\x00\x00\x00\x00\x02\x02\x00\x00\x00\x00\x10\x30\x12\x03"},
	{api.Frame{Kind: api.KindData, To: nodeA, From: nodeB, Third: nodeC},
		"\x12\x00\x00\x00\x02\x00\x00\x00\x00\x01\x02\x00\x00\x00\x00\x02\x02\x00\x00\x00\x00\x10\x00\x00\x00\x00\x00"},
	{api.Frame{Kind: api.KindData, Retry: true, Power: true, More: true, Last: true, To: nodeA, From: nodeB, Third: nodeC, Seq: 0xabc, Frag: 13, Cat: 1, Key: 0x102},
		"\x12\x17\x00\x00\x02\x00\x00\x00\x00\x01\x02\x00\x00\x00\x00\x02\x02\x00\x00\x00\x00\x10\xcd\xab\x01\x02\x01\x00\x00\x00\x00\x00"},
	{api.Frame{Kind: api.KindData, Joined: true, Policy: 2, To: nodeA, From: nodeB, Third: every, Key: 0xff00, Count: 0x102030405},
		"\x12\xa0\x00\x00\x02\x00\x00\x00\x00\x01\x02\x00\x00\x00\x00\x02\xff\xff\xff\xff\xff\xff\x00\x00\x00\x00\xff\x05\x04\x03\x02\x01"},
	{api.Frame{Kind: api.KindData, Stored: true, Policy: 1, To: group, From: nodeB, Third: nodeC, Key: 1, Count: 1<<40 - 1},
		"\x12\x48\x00\x00\x03\x00\x00\x00\x00\xab\x02\x00\x00\x00\x00\x02\x02\x00\x00\x00\x00\x10\x00\x00\x00\x01\x00\xff\xff\xff\xff\xff"},
}

func TestWriteExamples(t *testing.T) {
	for _, c := range writtenOut {
		if s := written(t, c.f); s != c.octets {
			t.Errorf("%+v: %x, want %x", c.f, s, c.octets)
		}
	}
}

// Frames of every kind; the body has no influence.
func TestWriteOfKinds(t *testing.T) {
	for _, f := range bases() {
		s := written(t, f)
		if s != octetsOf(f) {
			t.Errorf("%+v: %x, want %x", f, s, octetsOf(f))
		}
		f.Body = ""
		if again := written(t, f); again != s {
			t.Errorf("%+v: %x without and %x with a body", f, again, s)
		}
	}
}

func TestWriteOfRandomFrames(t *testing.T) {
	for _, f := range randomFrames(50000) {
		if errorOf(f) != api.OK {
			continue
		}
		if s := written(t, f); s != octetsOf(f) {
			t.Errorf("%+v: %x, want %x", f, s, octetsOf(f))
		}
	}
}

func TestWriteAppends(t *testing.T) {
	for _, f := range bases() {
		var w wire.Writer
		w.Text("before")
		Write(&w, f)
		Write(&w, f)
		w.Num(7, 1)
		want := "before" + octetsOf(f) + octetsOf(f) + "\x07"
		if s, e := w.Done(); s != want || e != api.OK {
			t.Errorf("%+v: %x, %d, want %x", f, s, e, want)
		}
	}
}

func TestWriteToWriterWithError(t *testing.T) {
	for _, f := range bases() {
		var w wire.Writer
		w.Text("before")
		w.Num(-1, 1)
		Write(&w, f)
		if s, e := w.Done(); s != "" || e != api.ErrRange {
			t.Errorf("%+v: %x, %d", f, s, e)
		}
	}
}

// These calls return, which is all that is promised.
func TestWriteReturns(t *testing.T) {
	frames := randomFrames(5000)
	for _, kind := range notKinds {
		for _, name := range allFields {
			for _, v := range values(name) {
				frames = append(frames, put(api.Frame{Kind: kind}, name, v))
			}
		}
	}
	for _, f := range frames {
		var w wire.Writer
		Write(&w, f)
		Write(nil, f)
		Write(new(wire.Writer), put(f, "Policy", math.MaxInt))
		Write(new(wire.Writer), put(f, "Seq", math.MinInt))
	}
}

// P10.4

func TestReadExamples(t *testing.T) {
	for _, c := range writtenOut {
		f := c.f
		f.Body = ""
		wantRead(t, c.octets, f, "", api.OK)
		wantRead(t, c.octets+"rest", f, "rest", api.OK)
	}
}

func TestReadErrors(t *testing.T) {
	const none, ackRest = "", "\x00\x00\x02\x00\x00\x00\x00\x01"
	const dataRest = "\x00\x00\x02\x00\x00\x00\x00\x01\x02\x00\x00\x00\x00\x02\x02\x00\x00\x00\x00\x10\x00\x00\x00"
	for _, c := range []struct {
		s    string
		want api.Errno
	}{
		{none, api.ErrShort},
		{"\x00", api.ErrForm},
		{"\x14", api.ErrForm},
		{"\xff\x00" + ackRest, api.ErrForm},
		{"\x0e", api.ErrShort},
		{"\x0e\x01", api.ErrForm},
		{"\x0e\x20" + ackRest, api.ErrForm},
		{"\x0e\x40", api.ErrForm},
		{"\x0e\x80" + ackRest, api.ErrForm},
		{"\x0e\xc0" + ackRest, api.ErrForm},
		{"\x0e\x00", api.ErrShort},
		{"\x0e\x00" + ackRest[:7], api.ErrShort},
		{"\x0e\x00\x00\x80" + ackRest[2:], api.ErrRange},
		{"\x0e\x00" + strings.Repeat("\x00", 8), api.ErrRange},
		{"\x12\xc0", api.ErrShort},
		{"\x12\xc0" + dataRest + "\x00\x00", api.ErrRange},
		{"\x12\x00" + dataRest + "\x00", api.ErrShort},
		{"\x12\x00" + dataRest + "\x00\x00", api.OK},
		{"\x12\x00" + dataRest + "\x01\x00", api.ErrShort},
		{"\x12\x00" + dataRest + "\x00\x01\x00\x00\x00\x00", api.ErrShort},
		{"\x12\x00" + dataRest + "\x00\x01\x00\x00\x00\x00\x00", api.OK},
		{"\x12\x22" + dataRest + "\x00\x00", api.ErrForm},
		{"\x13\x80", api.ErrShort},
		{"\x13\x80" + dataRest, api.ErrForm},
		{"\x13\xc0" + dataRest, api.ErrRange},
		{"\x13\x02" + dataRest, api.ErrForm},
		{"\x13\x20", api.ErrForm},
		{"\x01\x08", api.ErrForm},
		{"\x01\x00" + dataRest[:20] + "\x01\x00", api.ErrForm},
		{"\x01\x00" + dataRest[:20] + "\xff\xff", api.ErrForm},
		{"\x01\x00\x00\x80" + dataRest[2:20] + "\x01\x00", api.ErrRange},
	} {
		r := wire.NewReader(c.s)
		f := Read(r)
		if r.Err() != c.want || (f == api.Frame{}) != (c.want != api.OK) {
			t.Errorf("%x: %+v, %d, want %d", c.s, f, r.Err(), c.want)
		}
	}
}

// Headers of every kind with every octet of flags, cut off at every length.
func TestReadOfFlagsAndLengths(t *testing.T) {
	for _, f := range patterns() {
		for kind := range 256 {
			s := octetsOf(only(f, 18))
			if kind >= 1 && kind <= kindCount {
				s = octetsOf(only(f, kind))
			}
			s += "\x00\x01rest"
			for flags := range 256 {
				s = string([]byte{byte(kind), byte(flags)}) + s[2:]
				// The octets in between differ only for kinds.
				step := 1
				if kind == 0 || kind > kindCount {
					step = 16
				}
				for n := 0; n <= len(s); n += step {
					wantDefined(t, s[:n])
				}
			}
			if t.Failed() {
				return
			}
		}
	}
}

// Headers with every octet in every place.
func TestReadOfChangedOctets(t *testing.T) {
	for _, f := range bases() {
		s := octetsOf(f) + "rest"
		for i := range s {
			for octet := range 256 {
				wantDefined(t, s[:i]+string([]byte{byte(octet)})+s[i+1:])
			}
		}
		if t.Failed() {
			return
		}
	}
}

func TestReadOfRandomOctets(t *testing.T) {
	r := rand.New(rand.NewSource(11))
	for range 50000 {
		b := make([]byte, r.Intn(headerSize+8))
		r.Read(b)
		if len(b) > 0 && r.Intn(4) > 0 {
			b[0] = byte(1 + r.Intn(kindCount))
		}
		if len(b) > 1 && r.Intn(4) > 0 {
			b[1] = 0
		}
		for _, i := range []int{4, 10, 16} {
			if i < len(b) && r.Intn(4) > 0 {
				b[i] &^= 1
			}
		}
		if len(b) > 3 {
			b[3] &= 0x7f
		}
		if len(b) > 24 {
			b[24] &= 3
		}
		wantDefined(t, string(b))
	}
}

func TestReadWithError(t *testing.T) {
	for _, s := range []string{"", "\x00", "\x0e", writtenOut[0].octets, writtenOut[9].octets} {
		for _, e := range []api.Errno{api.ErrShort, api.ErrForm, api.ErrKey, api.ErrSlots, 99, -1} {
			r := wire.NewReader(s)
			r.Fail(e)
			if f := Read(r); f != (api.Frame{}) || r.Err() != e {
				t.Errorf("%x after %d: %+v, %d", s, e, f, r.Err())
			}
		}
	}
	if f := Read(nil); f != (api.Frame{}) {
		t.Errorf("nil: %+v", f)
	}
	var zero wire.Reader
	if f := Read(&zero); f != (api.Frame{}) || zero.Err() != api.ErrShort {
		t.Errorf("a Reader without octets: %+v, %d", f, zero.Err())
	}
}

// A Reader from which something was read already, and from which something is read again.
func TestReadInTheMiddle(t *testing.T) {
	for _, f := range bases() {
		r := wire.NewReader("\x05" + octetsOf(f) + octetsOf(f) + "\x07")
		before, first, second, after := r.Num(1), Read(r), Read(r), r.Num(1)
		f.Body = ""
		if before != 5 || first != f || second != f || after != 7 || r.End() != api.OK {
			t.Errorf("%+v: %d, %+v, %+v, %d, %d", f, before, first, second, after, r.End())
		}
		if Read(r) != (api.Frame{}) || r.Err() != api.ErrShort {
			t.Errorf("%+v: a frame behind the end, %d", f, r.Err())
		}
	}
}

// P10.8

func TestWrittenIsRead(t *testing.T) {
	for _, f := range append(bases(), randomFrames(50000)...) {
		if Check(f) != api.OK {
			continue
		}
		s := written(t, f)
		f.Body = ""
		for _, rest := range []string{"", "\x00", "\x01\x00", s} {
			wantRead(t, s+rest, f, rest, api.OK)
		}
	}
}

// Each number of a frame that has all fields, in all of its values or in many of them.
func TestNumbersAreRead(t *testing.T) {
	f := api.Frame{Kind: api.KindData, To: nodeA, From: nodeB, Third: nodeC, Key: 1}
	for name, most := range greatest {
		for n := 0; n <= most; n += 1 + most/70000 {
			g := put(f, name, n)
			wantRead(t, written(t, g), g, "", api.OK)
		}
		g := put(f, name, most)
		wantRead(t, written(t, g), g, "", api.OK)
	}
}

func TestAcceptedIsWritten(t *testing.T) {
	r := rand.New(rand.NewSource(12))
	all := bases()
	accepted := 0
	for range 100000 {
		b := []byte(octetsOf(all[r.Intn(len(all))]) + "rest")
		for range r.Intn(4) {
			b[r.Intn(len(b))] ^= 1 << r.Intn(8)
		}
		if r.Intn(3) == 0 {
			b = b[:r.Intn(len(b))]
		}
		reader := wire.NewReader(string(b))
		f := Read(reader)
		if reader.Err() != api.OK {
			continue
		}
		accepted++
		if Check(f) != api.OK || written(t, f)+reader.Rest() != string(b) {
			t.Errorf("%x is accepted as %+v, Check %d, for which Write writes %x", b, f, Check(f), written(t, f))
		}
	}
	if accepted < 10000 {
		t.Errorf("only %d of 100000 are accepted", accepted)
	}
}

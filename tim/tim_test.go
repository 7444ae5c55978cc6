package tim

import (
	"fmt"
	"math"
	"math/rand"
	"strings"
	"testing"

	"airtime/api"
)

// Limits as the chapter states them, so that a changed constant of the program is noticed.
const (
	greatestAID    = 63
	greatestPeriod = 255
	bitmapOctets   = 8
	headOctets     = 3
)

// allSet has every identifier from 1 to 63.
const allSet = math.MaxUint64 - 1

// of returns the set of the identifiers l.
func of(l ...int) uint64 {
	var s uint64
	for _, i := range l {
		s += 1 << i
	}
	return s
}

// examples are maps and their octets, written out.
var examples = []struct {
	t api.Tim
	s string
}{
	{api.Tim{Period: 2, Group: true, Set: of(17, 31)}, "\x00\x02\x03\x02\x80"},
	{api.Tim{Period: 2, Set: of(17, 31)}, "\x00\x02\x02\x02\x80"},
	{api.Tim{Period: 1}, "\x00\x01\x00\x00"},
	{api.Tim{Count: 254, Period: 255, Group: true}, "\xfe\xff\x01\x00"},
	{api.Tim{Count: 2, Period: 3, Set: of(1)}, "\x02\x03\x00\x02"},
	{api.Tim{Count: 1, Period: 3, Set: of(7)}, "\x01\x03\x00\x80"},
	{api.Tim{Period: 3, Set: of(8)}, "\x00\x03\x00\x00\x01"},
	{api.Tim{Period: 3, Set: of(15)}, "\x00\x03\x00\x00\x80"},
	{api.Tim{Period: 3, Set: of(16)}, "\x00\x03\x02\x01"},
	{api.Tim{Period: 3, Set: of(24)}, "\x00\x03\x02\x00\x01"},
	{api.Tim{Period: 3, Set: of(32)}, "\x00\x03\x04\x01"},
	{api.Tim{Period: 3, Set: of(40)}, "\x00\x03\x04\x00\x01"},
	{api.Tim{Period: 3, Group: true, Set: of(48)}, "\x00\x03\x07\x01"},
	{api.Tim{Period: 3, Group: true, Set: of(63)}, "\x00\x03\x07\x00\x80"},
	{api.Tim{Period: 3, Set: of(16, 63)}, "\x00\x03\x02\x01\x00\x00\x00\x00\x80"},
	{api.Tim{Period: 3, Set: of(8, 63)}, "\x00\x03\x00\x00\x01\x00\x00\x00\x00\x00\x80"},
	{api.Tim{Period: 3, Set: of(7, 9)}, "\x00\x03\x00\x80\x02"},
	{api.Tim{Period: 3, Set: allSet}, "\x00\x03\x00\xfe\xff\xff\xff\xff\xff\xff\xff"},
}

// checked is what the chapter says of Check, with the limits written out.
func checked(t api.Tim) api.Errno {
	if t.Period < 1 || t.Period > 255 || t.Count < 0 || t.Count > t.Period-1 {
		return api.ErrRange
	}
	if t.Set%2 == 1 {
		return api.ErrForm
	}
	return api.OK
}

// encoded returns the octets of a valid map, by the definition: the bitmap as 8 octets, of which some are cut off.
func encoded(t api.Tim) string {
	var bitmap [bitmapOctets]byte
	for aid := range 64 {
		if t.Set>>aid&1 == 1 {
			bitmap[aid/8] |= 1 << (aid % 8)
		}
	}
	whole := string(bitmap[:])
	end := strings.TrimRight(whole, "\x00")
	a := len(end) - len(strings.TrimLeft(end, "\x00"))
	if a%2 == 1 {
		a--
	}
	body := end[a:]
	if body == "" {
		body = "\x00"
	}
	control := 2 * (a / 2)
	if t.Group {
		control++
	}
	return string([]byte{byte(t.Count), byte(t.Period), byte(control)}) + body
}

// decoded is what the chapter says of Decode. It does not encode: the strings that are no results of Encode are described
// by where their bitmaps begin and end.
func decoded(s string) (api.Tim, api.Errno) {
	if len(s) < 4 {
		return api.Tim{}, api.ErrShort
	}
	if len(s) > 11 {
		return api.Tim{}, api.ErrLong
	}
	if s[1] < 1 || s[0] >= s[1] {
		return api.Tim{}, api.ErrRange
	}
	offset, body := int(s[2]/2), s[3:]
	beyond := 2*offset+len(body) > 8
	lateStart := body[0] == 0 && (len(body) == 1 || body[1] == 0)
	earlyEnd := body[len(body)-1] == 0
	empty := offset == 0 && body == "\x00"
	if beyond || !empty && (lateStart || earlyEnd) || offset == 0 && body[0]%2 == 1 {
		return api.Tim{}, api.ErrForm
	}
	t := api.Tim{Count: int(s[0]), Period: int(s[1]), Group: s[2]%2 == 1}
	for i := range len(body) {
		for k := range 8 {
			if body[i]>>k%2 == 1 {
				t.Set |= 1 << (8*(2*offset+i) + k)
			}
		}
	}
	return t, api.OK
}

// tryMap compares all that the chapter says of the octets of a map, valid or not.
func tryMap(t *testing.T, m api.Tim) {
	t.Helper()
	want := checked(m)
	if e := Check(m); e != want {
		t.Fatalf("Check(%+v) = %d, not %d", m, e, want)
	}
	s, e := Encode(m)
	if want != api.OK {
		if s != "" || e != want {
			t.Fatalf("Encode(%+v) = %x, %d, not nothing and %d", m, s, e, want)
		}
		return
	}
	if s != encoded(m) || e != api.OK {
		t.Fatalf("Encode(%+v) = %x, %d, not %x and OK", m, s, e, encoded(m))
	}
	if same, e := Decode(s); same != m || e != api.OK {
		t.Fatalf("Decode(%x) = %+v, %d, not %+v and OK", s, same, e, m)
	}
}

// tryString compares all that the chapter says of the map of a string, valid or not.
func tryString(t *testing.T, s string) {
	t.Helper()
	want, wantErr := decoded(s)
	m, e := Decode(s)
	if m != want || e != wantErr {
		t.Fatalf("Decode(%x) = %+v, %d, not %+v and %d", s, m, e, want, wantErr)
	}
	if e != api.OK {
		return
	}
	if e := Check(m); e != api.OK {
		t.Fatalf("Decode(%x) = %+v, which Check calls %d", s, m, e)
	}
	if same, e := Encode(m); same != s || e != api.OK {
		t.Fatalf("Encode(%+v) = %x, %d, not %x and OK", m, same, e, s)
	}
}

// P13.1

func TestCheckExamples(t *testing.T) {
	for _, x := range []struct {
		t    api.Tim
		want api.Errno
	}{
		{api.Tim{Count: 3, Period: 3}, api.ErrRange},
		{api.Tim{Count: 2, Period: 3}, api.OK},
		{api.Tim{}, api.ErrRange},
		{api.Tim{Period: 1}, api.OK},
		{api.Tim{Count: 1, Period: 1}, api.ErrRange},
		{api.Tim{Period: 255}, api.OK},
		{api.Tim{Count: 254, Period: 255}, api.OK},
		{api.Tim{Count: 255, Period: 255}, api.ErrRange},
		{api.Tim{Period: 256}, api.ErrRange},
		{api.Tim{Count: 255, Period: 256}, api.ErrRange},
		{api.Tim{Count: -1, Period: 3}, api.ErrRange},
		{api.Tim{Count: -1}, api.ErrRange},
		{api.Tim{Count: -2, Period: -1}, api.ErrRange},
		{api.Tim{Period: -1}, api.ErrRange},
		{api.Tim{Period: 1, Set: 1}, api.ErrForm},
		{api.Tim{Period: 1, Set: math.MaxUint64}, api.ErrForm},
		{api.Tim{Period: 1, Group: true, Set: allSet}, api.OK},
		{api.Tim{Set: 1}, api.ErrRange},
		{api.Tim{Count: 3, Period: 3, Set: 1}, api.ErrRange},
	} {
		if e := Check(x.t); e != x.want {
			t.Errorf("Check(%+v) = %d, not %d", x.t, e, x.want)
		}
	}
}

// edges are numbers at the ends of what Count and Period may be, and numbers that equal valid ones modulo 2^8, 2^16 or 2^32.
var edges = []int{
	math.MinInt, math.MinInt + 1, math.MinInt32, -65535, -256, -255, -254, -2, -1, 0, 1, 2, 3, 127, 128, 253, 254, 255, 256, 257, 258, 511, 512,
	1 << 15, 1<<15 + 1, 1 << 16, 1<<16 + 3, 1 << 31, 1<<31 + 2, 1 << 32, 1<<32 + 1, 1<<32 + 3, math.MaxInt - 1, math.MaxInt,
}

func TestCheckAtTheEdges(t *testing.T) {
	for _, count := range edges {
		for _, period := range edges {
			for _, set := range []uint64{0, 1, 2, 3, of(17, 31), 1 << 63, 1<<63 + 1, allSet, math.MaxUint64} {
				for _, group := range []bool{false, true} {
					tryMap(t, api.Tim{Count: count, Period: period, Group: group, Set: set})
				}
			}
		}
	}
}

func TestCheckAllCounts(t *testing.T) {
	for period := -2; period <= greatestPeriod+3; period++ {
		for count := -2; count <= period+2; count++ {
			tryMap(t, api.Tim{Count: count, Period: period})
			tryMap(t, api.Tim{Count: count, Period: period, Set: 1})
		}
	}
}

// P13.2, P13.3 and P13.6

func TestOctetsOfExamples(t *testing.T) {
	for _, x := range examples {
		if s, e := Encode(x.t); s != x.s || e != api.OK {
			t.Errorf("Encode(%+v) = %x, %d, not %x and OK", x.t, s, e, x.s)
		}
		if m, e := Decode(x.s); m != x.t || e != api.OK {
			t.Errorf("Decode(%x) = %+v, %d, not %+v and OK", x.s, m, e, x.t)
		}
		tryString(t, x.s)
	}
}

func TestOctetsOfFewIdentifiers(t *testing.T) {
	for _, group := range []bool{false, true} {
		m := api.Tim{Count: 4, Period: 7, Group: group}
		tryMap(t, m)
		m.Set = allSet
		tryMap(t, m)
		for i := range greatestAID + 1 {
			for k := range greatestAID + 1 {
				// The pair of i and i is i alone; identifier 0 is not valid.
				m.Set = of(i) | of(k)
				tryMap(t, m)
				m.Set = allSet &^ m.Set
				tryMap(t, m)
			}
		}
	}
}

func TestOctetsOfRanges(t *testing.T) {
	for from := range greatestAID + 1 {
		for to := from; to <= greatestAID; to++ {
			all := uint64(math.MaxUint64)
			m := api.Tim{Count: 254, Period: 255, Group: true, Set: all << from << (greatestAID - to) >> (greatestAID - to)}
			tryMap(t, m)
			m.Set = ^m.Set &^ 1
			tryMap(t, m)
		}
	}
}

// randomTim returns a map that is valid, with identifiers in a few octets or in all.
func randomTim(r *rand.Rand) api.Tim {
	period := 1 + r.Intn(greatestPeriod)
	set := r.Uint64()
	for range r.Intn(7) {
		set &= r.Uint64()
	}
	set = set >> r.Intn(64) << r.Intn(64)
	return api.Tim{Count: r.Intn(period), Period: period, Group: r.Intn(2) == 1, Set: set &^ 1}
}

func TestOctetsOfManyMaps(t *testing.T) {
	r := rand.New(rand.NewSource(13))
	for range 200000 {
		m := randomTim(r)
		tryMap(t, m)
		tryString(t, encoded(m))
	}
}

func TestDecodeErrors(t *testing.T) {
	for _, x := range []struct {
		s    string
		want api.Errno
	}{
		{"", api.ErrShort},
		{"\x00\x01\x00", api.ErrShort},
		{"\x00\x00\x00", api.ErrShort},
		{"\x05\x05\xff", api.ErrShort},
		{"\x00\x01\x00\x02\x00\x00\x00\x00\x00\x00\x80\x00", api.ErrLong},
		{"\x00\x01\x00\x02\x00\x00\x00\x00\x00\x00\x00\x80", api.ErrLong},
		{"\x00\x00\x00\x02\x00\x00\x00\x00\x00\x00\x80\x00", api.ErrLong},
		{"\x05\x05\xff\x00\x00\x00\x00\x00\x00\x00\x00\x00", api.ErrLong},
		{"\x00\x00\x00\x00", api.ErrRange},
		{"\x02\x02\x00\x00", api.ErrRange},
		{"\x03\x02\x00\x00", api.ErrRange},
		{"\xff\xff\x00\x00", api.ErrRange},
		{"\x00\x00\x00\x01", api.ErrRange},
		{"\x00\x00\x08\x02", api.ErrRange},
		{"\x02\x02\x00\x02\x00", api.ErrRange},
		{"\x03\x02\x04\x00\x00\x01", api.ErrRange},
		{"\x00\x02\x01\x00\x00\x02\x80", api.ErrForm},
		{"\x00\x02\x01\x00\x00", api.ErrForm},
		{"\x00\x01\x00\x01", api.ErrForm},
		{"\x00\x01\x00\x03", api.ErrForm},
		{"\x00\x01\x01\xff\x01", api.ErrForm},
		{"\x00\x01\x02\x00", api.ErrForm},
		{"\x00\x01\x02\x00\x00\x01", api.ErrForm},
		{"\x00\x01\x00\x02\x00", api.ErrForm},
		{"\x00\x01\x06\x00\x00", api.ErrForm},
		{"\x00\x01\x06\x01\x00", api.ErrForm},
		{"\x00\x01\x06\x01\x01\x01", api.ErrForm},
		{"\x00\x01\x06\x01\x01\x00", api.ErrForm},
		{"\x00\x01\x08\x01", api.ErrForm},
		{"\x00\x01\x08\x00", api.ErrForm},
		{"\x00\x01\x0a\x01", api.ErrForm},
		{"\x00\x01\x7e\x01", api.ErrForm},
		{"\x00\x01\x80\x02", api.ErrForm},
		{"\x00\x01\xfe\x02", api.ErrForm},
		{"\x00\x01\xff\x02", api.ErrForm},
		{"\x00\x01\x02\x02\x02\x02\x02\x02\x02\x02", api.ErrForm},
		{"\x00\x01\x02\x02\x02\x02\x02\x02\x02\x02\x02", api.ErrForm},
	} {
		if m, e := Decode(x.s); m != (api.Tim{}) || e != x.want {
			t.Errorf("Decode(%x) = %+v, %d, not the zero map and %d", x.s, m, e, x.want)
		}
		tryString(t, x.s)
	}
}

// TestDecodeOctetsOfTheHead tries every value of one of the first three octets, and of two of them together.
func TestDecodeOctetsOfTheHead(t *testing.T) {
	for _, x := range examples {
		for i := range headOctets {
			for k := range i {
				s := []byte(x.s)
				for a := range 256 {
					s[i] = byte(a)
					for b := range 256 {
						s[k] = byte(b)
						tryString(t, string(s))
					}
				}
			}
		}
	}
}

// TestDecodeEveryLength tries bitmaps of every length from each control octet on, of octets at their edges, and strings that
// are shorter or longer than every valid one.
func TestDecodeEveryLength(t *testing.T) {
	for length := range 13 {
		for _, fill := range []string{"\x00", "\x01", "\x02", "\x80", "\xff"} {
			for _, head := range []string{"\x00\x01", "\x00\x00", "\x01\x01", "\x02\x05", "\xfe\xff", "\xff\xff"} {
				for control := range 256 {
					s := head + string([]byte{byte(control)}) + strings.Repeat(fill, 12)
					tryString(t, s[:length])
				}
			}
		}
	}
}

// TestDecodeBitmaps tries, for every offset, even those beyond the bitmap, all bitmaps of up to nine octets that are 0, 1 or 128, and those of one octet
// with every value, alone and beside an octet 0.
func TestDecodeBitmaps(t *testing.T) {
	values := "\x00\x01\x80"
	bodies := []string{""}
	for range bitmapOctets + 1 {
		var longer []string
		for _, body := range bodies {
			for control := 0; control <= 11; control++ {
				tryString(t, string([]byte{2, 9, byte(control)})+body)
			}
			for i := range len(values) {
				longer = append(longer, body+values[i:i+1])
			}
		}
		bodies = longer
	}
	for control := range 256 {
		for v := range 256 {
			tryString(t, string([]byte{2, 9, byte(control), byte(v)}))
			tryString(t, string([]byte{2, 9, byte(control), 0, byte(v)}))
			tryString(t, string([]byte{2, 9, byte(control), byte(v), 0}))
		}
	}
}

// TestDecodeAddedOctets adds to the octets of a map what Encode leaves out: octets 0 before the first one and after the last.
func TestDecodeAddedOctets(t *testing.T) {
	r := rand.New(rand.NewSource(31))
	for range 20000 {
		m := randomTim(r)
		s := encoded(m)
		for zeros := 1; zeros <= bitmapOctets; zeros++ {
			long := strings.Repeat("\x00", zeros)
			late := s + long
			tryString(t, late)
			control := int(s[2]) - zeros
			if zeros%2 == 1 || control < 0 {
				continue
			}
			early := s[:2] + string([]byte{byte(control)}) + long + s[headOctets:]
			tryString(t, early)
			if _, e := Decode(early); e == api.OK {
				t.Fatalf("Decode accepts %x and %x", s, early)
			}
		}
		// Identifier 0 in the first octet that is sent, or in one that is sent for it.
		if s[2] < 2 {
			tryString(t, s[:headOctets]+string([]byte{s[headOctets] | 1})+s[headOctets+1:])
		}
	}
}

func TestDecodeRandomStrings(t *testing.T) {
	r := rand.New(rand.NewSource(7))
	for range 300000 {
		s := make([]byte, r.Intn(14))
		for i := range s {
			s[i] = byte(r.Intn(256))
			if r.Intn(3) == 0 {
				s[i] = byte(r.Intn(4))
			}
		}
		if len(s) > 2 {
			s[2] = byte(r.Intn(10))
		}
		tryString(t, string(s))
	}
}

// P13.4

func TestHasExamples(t *testing.T) {
	m := api.Tim{Period: 2, Group: true, Set: of(17, 31)}
	for aid, want := range map[int]bool{17: true, 31: true, 0: false, 64: false, 16: false, 18: false, -1: false, 17 + 64: false, 17 - 64: false, 17 + 1<<32: false} {
		if Has(m, aid) != want {
			t.Errorf("Has(%+v, %d) is not %t", m, aid, want)
		}
	}
}

func TestHasEveryIdentifier(t *testing.T) {
	aids := []int{math.MinInt, math.MinInt + 17, math.MinInt32, -1 << 16, -256, -64, -63, 127, 128, 256 + 17, 1<<16 + 17, 1<<32 + 17, math.MaxInt - 46, math.MaxInt}
	for aid := -3; aid <= 67; aid++ {
		aids = append(aids, aid)
	}
	sets := []uint64{0, 1, allSet, math.MaxUint64, of(17, 31)}
	for i := range 64 {
		sets = append(sets, of(i), math.MaxUint64-of(i))
	}
	for _, set := range sets {
		for _, aid := range aids {
			want := false
			for i := 1; i <= greatestAID; i++ {
				want = want || i == aid && set>>i%2 == 1
			}
			// Has says nothing of valid maps only.
			for _, m := range []api.Tim{{Period: 1, Set: set}, {Set: set}, {Count: -1, Period: 300, Group: true, Set: set}} {
				if Has(m, aid) != want {
					t.Fatalf("Has(%+v, %d) is not %t", m, aid, want)
				}
			}
		}
	}
}

// P13.5 and P13.6

func TestNextExamples(t *testing.T) {
	for _, x := range []struct{ t, want api.Tim }{
		{api.Tim{Period: 3}, api.Tim{Count: 2, Period: 3}},
		{api.Tim{Count: 2, Period: 3}, api.Tim{Count: 1, Period: 3}},
		{api.Tim{Count: 1, Period: 3, Group: true, Set: of(17)}, api.Tim{Period: 3, Group: true, Set: of(17)}},
		{api.Tim{Period: 1, Group: true}, api.Tim{Period: 1, Group: true}},
		{api.Tim{Period: 255, Set: allSet}, api.Tim{Count: 254, Period: 255, Set: allSet}},
	} {
		if m := Next(x.t); m != x.want {
			t.Errorf("Next(%+v) = %+v, not %+v", x.t, m, x.want)
		}
	}
}

func TestNextOfEveryCount(t *testing.T) {
	r := rand.New(rand.NewSource(255))
	for period := 1; period <= greatestPeriod; period++ {
		for count := range period {
			m := api.Tim{Count: count, Period: period, Group: r.Intn(2) == 1, Set: r.Uint64() &^ 1}
			want := m
			want.Count = (count + period - 1) % period
			if next := Next(m); next != want {
				t.Fatalf("Next(%+v) = %+v, not %+v", m, next, want)
			}
		}
	}
}

func TestNextReturns(t *testing.T) {
	r := rand.New(rand.NewSource(5))
	for range 3000 {
		m := randomTim(r)
		x := m
		for step := 1; step <= m.Period; step++ {
			x = Next(x)
			if e := Check(x); e != api.OK {
				t.Fatalf("step %d after %+v gives %+v, which Check calls %d", step, m, x, e)
			}
			if (x == m) != (step == m.Period) {
				t.Fatalf("step %d after %+v gives %+v", step, m, x)
			}
		}
	}
}

// R1: nothing more is promised of maps that are not valid.
func TestNextDoesNotPanic(t *testing.T) {
	for _, count := range edges {
		for _, period := range edges {
			Next(api.Tim{Count: count, Period: period, Set: 1})
		}
	}
}

// P13.6: no two maps have the same octets.
func TestOctetsDiffer(t *testing.T) {
	seen := map[string]string{}
	for _, group := range []bool{false, true} {
		for period := 1; period <= 3; period++ {
			for count := range period {
				for set := range uint64(1 << 10) {
					m := api.Tim{Count: count, Period: period, Group: group, Set: set << 6 &^ 1}
					s, _ := Encode(m)
					if other, twice := seen[s]; twice {
						t.Fatalf("%s and %+v have the octets %x", other, m, s)
					}
					seen[s] = fmt.Sprintf("%+v", m)
				}
			}
		}
	}
}

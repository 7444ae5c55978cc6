package beacon

import (
	"math/rand"
	"slices"
	"strings"
	"testing"

	"airtime/api"
	"airtime/element"
	"airtime/tim"
)

// knownIDs are the known IDs in their order.
var knownIDs = []int{0, 3, 5, 11, 12, 37}

// headOctets is the number of octets before the elements, and mostElements the greatest number of elements.
const (
	headOctets   = 6
	mostElements = 32
)

// numberOf is the number with the octets s, the least significant one first.
func numberOf(s string) int {
	n := 0
	for i := len(s) - 1; i >= 0; i-- {
		n = 256*n + int(s[i])
	}
	return n
}

// sizeFault is the error of data that must have size octets.
func sizeFault(data string, size int) api.Errno {
	switch {
	case len(data) < size:
		return api.ErrShort
	case len(data) > size:
		return api.ErrLong
	}
	return api.OK
}

// decoded is what the chapter says of Decode, in its steps.
func decoded(s string) (api.Beacon, api.Errno) {
	if len(s) < headOctets {
		return api.Beacon{}, api.ErrShort
	}
	l, e := element.Decode(s[headOctets:])
	if e != api.OK {
		return api.Beacon{}, e
	}
	var ids []int
	data := map[int]string{}
	for _, x := range l {
		if slices.Contains(knownIDs, x.ID) {
			ids = append(ids, x.ID)
			data[x.ID] = x.Data
		}
	}
	announced := slices.Equal(ids, knownIDs)
	if !announced && !slices.Equal(ids, knownIDs[:5]) {
		return api.Beacon{}, api.ErrForm
	}
	m, mapFault := tim.Decode(data[5])
	faults := []api.Errno{sizeFault(data[3], 1), mapFault, sizeFault(data[11], 2), sizeFault(data[12], 20)}
	if announced {
		faults = append(faults, sizeFault(data[37], 2))
	}
	for _, e := range faults {
		if e != api.OK {
			return api.Beacon{}, e
		}
	}
	b := api.Beacon{
		Stamp: numberOf(s[:4]), Interval: numberOf(s[4:6]),
		Name: data[0], Channel: numberOf(data[3]), Tim: m, Load: numberOf(data[11]),
	}
	for i := range b.Params {
		p := data[12][5*i : 5*i+5]
		b.Params[i] = api.Params{Aifsn: int(p[0]), Min: int(p[1]), Max: int(p[2]), Txop: numberOf(p[3:])}
	}
	if announced {
		b.Switch = api.Switch{Channel: int(data[37][0]), Count: int(data[37][1])}
		if b.Switch.Channel == 0 {
			return api.Beacon{}, api.ErrForm
		}
	}
	if e := checked(b); e != api.OK {
		return api.Beacon{}, e
	}
	return b, api.OK
}

// stripped is s without its unknown elements; s is a list of elements behind the octets before it.
func stripped(s string) string {
	kept := s[:headOctets]
	for s = s[headOctets:]; s != ""; {
		end := 2 + int(s[1])
		if slices.Contains(knownIDs, int(s[0])) {
			kept += s[:end]
		}
		s = s[end:]
	}
	return kept
}

// tryString compares all that the chapter says of the beacon of a string, valid or not, and reports whether it is valid.
func tryString(t *testing.T, s string) bool {
	t.Helper()
	want, wantErr := decoded(s)
	b, e := Decode(s)
	if b != want || e != wantErr {
		t.Fatalf("Decode(%x) = %#v, %d, not %#v and %d", s, b, e, want, wantErr)
	}
	if e != api.OK {
		return false
	}
	if e := Check(b); e != api.OK {
		t.Fatalf("Decode(%x) = %#v, which Check calls %d", s, b, e)
	}
	if same, e := Encode(b); same != stripped(s) || e != api.OK {
		t.Fatalf("Encode(%#v) = %x, %d, not %x and OK", b, same, e, stripped(s))
	}
	return true
}

// joined are the octets of a beacon that has the octets before its elements from b, and these elements.
func joined(b api.Beacon, l ...string) string {
	return start(b) + strings.Join(l, "")
}

// inserted are the octets of b with x in front of element i, or behind all of them.
func inserted(b api.Beacon, i int, x string) string {
	return joined(b, slices.Insert(pieces(b), i, x)...)
}

// replaced are the octets of b with x in place of the element with this ID, which must be in b.
func replaced(b api.Beacon, id int, x string) string {
	l := pieces(b)
	l[slices.Index(knownIDs, id)] = x
	return joined(b, l...)
}

// dataOf is the data of the element of b with this ID.
func dataOf(b api.Beacon, id int) string {
	return pieces(b)[slices.Index(knownIDs, id)][2:]
}

// announcing is a beacon that announces a switch, so that it has all known elements.
func announcing() api.Beacon {
	b := plain()
	b.Switch = api.Switch{Channel: 2, Count: 9}
	return b
}

// P14.3

func TestDecodeOfTheExample(t *testing.T) {
	s := "\x02\x01\x00\x00\x64\x00" + "\x00\x04home" + "\x03\x01\x06" + "\x05\x04\x00\x01\x00\x00" + "\x0b\x02\x03\x00" +
		"\x0c\x14\x07\x04\x0a\x00\x00\x03\x04\x0a\x00\x00\x02\x03\x04\x5e\x00\x02\x02\x03\x2f\x00"
	wantDecode(t, s, plain(), api.OK)
	wantDecode(t, s+"\x25\x02\x02\x09", announcing(), api.OK)
	wantDecode(t, s+"\x26\x00\x25\x02\x02\x09\xdd\x01\x25", announcing(), api.OK)
	wantDecode(t, s+"\x26\x02\x02\x09", plain(), api.OK)
	wantError(t, "", api.ErrShort)
	wantError(t, s[:5], api.ErrShort)
	wantError(t, s[:6], api.ErrForm)
	wantError(t, s[6:], api.ErrForm)
	wantError(t, s+s, api.ErrShort)
	wantError(t, s+s[6:], api.ErrForm)
}

func TestDecodeOfEachLength(t *testing.T) {
	for _, b := range samples() {
		s := octetsOf(b)
		// The beginnings that are whole elements; with the first five of them they are a beacon.
		whole := map[int]int{}
		end := headOctets
		for i, p := range pieces(b) {
			whole[end] = i
			end += len(p)
		}
		for n := range len(s) {
			elements, isList := whole[n]
			switch {
			case !isList:
				wantError(t, s[:n], api.ErrShort)
			case elements < 5:
				wantError(t, s[:n], api.ErrForm)
			default:
				silent := b
				silent.Switch = api.Switch{}
				wantDecode(t, s[:n], silent, api.OK)
			}
			tryString(t, s[:n])
			tryString(t, s[n:])
		}
	}
	for n := range headOctets {
		for _, octet := range []string{"\x00", "\x01", "\xff"} {
			wantError(t, strings.Repeat(octet, n), api.ErrShort)
		}
	}
}

func TestDecodeOfOneOctetLessOrMore(t *testing.T) {
	try := func(b api.Beacon) {
		s := octetsOf(b)
		wantDecode(t, s, b, api.OK)
		wantError(t, s[:len(s)-1], api.ErrShort)
		for octet := range 256 {
			wantError(t, s+string([]byte{byte(octet)}), api.ErrShort)
		}
	}
	for _, b := range samples() {
		try(b)
	}
	r := rand.New(rand.NewSource(1))
	for range 200 {
		try(randomBeacon(r))
	}
}

// All sequences of up to seven elements that a beacon has; the elements of two sequences are the right ones.
func TestDecodeOfEverySequence(t *testing.T) {
	with := announcing()
	all := pieces(with)
	right := map[string]api.Beacon{
		joined(with, all...):     with,
		joined(with, all[:5]...): plain(),
	}
	valid := 0
	sequences := []string{start(with)}
	for range 7 {
		var longer []string
		for _, s := range sequences {
			for _, p := range all {
				longer = append(longer, s+p)
			}
		}
		for _, s := range longer {
			if b, ok := right[s]; ok {
				valid++
				wantDecode(t, s, b, api.OK)
			} else {
				wantError(t, s, api.ErrForm)
			}
		}
		sequences = longer
	}
	if valid != 2 {
		t.Fatalf("%d sequences are beacons", valid)
	}
}

// Elements that are left out, twice there or exchanged, in beacons of every sort, also where unknown ones stand between them.
func TestDecodeOfWrongOrders(t *testing.T) {
	for _, b := range samples() {
		for _, between := range []string{"", piece(4, ""), piece(255, name(255))} {
			whole := pieces(b)
			for i, p := range whole {
				out := slices.Delete(slices.Clone(whole), i, i+1)
				if i < 5 {
					wantError(t, start(b)+strings.Join(out, between), api.ErrForm)
				}
				for k := range len(whole) + 1 {
					twice := slices.Insert(slices.Clone(whole), k, p)
					wantError(t, start(b)+strings.Join(twice, between), api.ErrForm)
				}
				for k := range whole {
					if k != i {
						moved := slices.Insert(slices.Clone(out), k, p)
						wantError(t, start(b)+strings.Join(moved, between), api.ErrForm)
					}
				}
			}
		}
	}
}

func TestDecodeOfUnknownElementsAlone(t *testing.T) {
	wantError(t, joined(plain(), piece(1, "x")), api.ErrForm)
	wantError(t, joined(plain(), piece(4, ""), piece(255, "")), api.ErrForm)
	// Elements with other IDs do not stand for the known ones.
	for _, id := range knownIDs {
		for other := range 256 {
			if slices.Contains(knownIDs, other) {
				continue
			}
			s := replaced(announcing(), id, piece(other, dataOf(announcing(), id)))
			if id == 37 {
				wantDecode(t, s, plain(), api.OK)
			} else {
				wantError(t, s, api.ErrForm)
			}
		}
	}
}

// sizes are the numbers of octets that the data of the known elements has; that of a map has from 4 to 11, and that of a
// name from 1 to 32.
var sizes = map[int][2]int{0: {1, 32}, 3: {1, 1}, 5: {4, 11}, 11: {2, 2}, 12: {20, 20}, 37: {2, 2}}

func TestDecodeOfEverySize(t *testing.T) {
	for _, b := range []api.Beacon{announcing(), full(), greatest()} {
		for _, id := range knownIDs {
			data := dataOf(b, id)
			for n := range 256 {
				s := replaced(b, id, piece(id, (data + name(255))[:n]))
				switch {
				case n < sizes[id][0]:
					wantError(t, s, api.ErrShort)
				case n > sizes[id][1]:
					wantError(t, s, api.ErrLong)
				case n == len(data):
					wantDecode(t, s, b, api.OK)
				}
				tryString(t, s)
			}
		}
	}
}

func TestDecodeOfOneOctetOfData(t *testing.T) {
	b := announcing()
	for _, x := range []struct {
		id   int
		data string
		want api.Errno
	}{
		{0, "", api.ErrShort},
		{0, name(33), api.ErrLong},
		{3, "", api.ErrShort},
		{3, "\x06\x00", api.ErrLong},
		{5, "\x00\x01\x00", api.ErrShort},
		{5, "\x00\x01\x00\xfe\xff\xff\xff\xff\xff\xff\xff\x00", api.ErrLong},
		{5, "", api.ErrShort},
		{11, "\x03", api.ErrShort},
		{11, "\x03\x00\x00", api.ErrLong},
		{11, "", api.ErrShort},
		{12, dataOf(b, 12)[:19], api.ErrShort},
		{12, dataOf(b, 12) + "\x00", api.ErrLong},
		{12, dataOf(b, 12)[:15], api.ErrShort},
		{12, dataOf(b, 12) + "\x02\x02\x03\x2f\x00", api.ErrLong},
		{12, "", api.ErrShort},
		{37, "\x02", api.ErrShort},
		{37, "\x02\x09\x00", api.ErrLong},
		{37, "", api.ErrShort},
		{37, "\x00", api.ErrShort},
		{37, "\x00\x00\x00", api.ErrLong},
	} {
		wantError(t, replaced(b, x.id, piece(x.id, x.data)), x.want)
	}
}

func TestDecodeOfUnknownElements(t *testing.T) {
	for _, b := range []api.Beacon{plain(), announcing(), full(), greatest()} {
		for id := range 256 {
			if slices.Contains(knownIDs, id) {
				continue
			}
			for place := range len(pieces(b)) + 1 {
				for _, data := range []string{"", "\x00", "\x25\x02\x00\x00", name(255)} {
					s := inserted(b, place, piece(id, data))
					wantDecode(t, s, b, api.OK)
					tryString(t, s)
				}
			}
		}
	}
}

func TestDecodeOfManyUnknownElements(t *testing.T) {
	for _, b := range samples() {
		for place := range len(pieces(b)) + 1 {
			for _, x := range []string{piece(1, ""), piece(255, name(255))} {
				most := mostElements - len(pieces(b))
				wantDecode(t, inserted(b, place, strings.Repeat(x, most)), b, api.OK)
				wantError(t, inserted(b, place, strings.Repeat(x, most+1)), api.ErrFull)
				wantError(t, inserted(b, place, strings.Repeat(x, 2000)), api.ErrFull)
			}
		}
	}
}

func TestDecodeOfASwitchWithoutChannel(t *testing.T) {
	for _, b := range samples() {
		b.Switch = api.Switch{}
		for count := range 256 {
			s := octetsOf(b) + "\x25\x02\x00" + string([]byte{byte(count)})
			wantError(t, s, api.ErrForm)
			wantError(t, s+piece(38, "\x02"), api.ErrForm)
		}
	}
}

// TestDecodeOfEveryChannelAndCount looks at the channels of both elements that have one.
func TestDecodeOfEveryChannelAndCount(t *testing.T) {
	b := announcing()
	for channel := range 256 {
		octet := string([]byte{byte(channel)})
		want := api.ErrRange
		if 1 <= channel && channel <= 8 {
			want = api.OK
		}
		if _, e := Decode(replaced(b, 3, "\x03\x01"+octet)); e != want {
			t.Fatalf("Decode with the Channel %d has the error %d, not %d", channel, e, want)
		}
		if channel == 0 {
			want = api.ErrForm
		}
		for _, count := range []string{"\x00", "\x01", "\xff"} {
			if _, e := Decode(replaced(b, 37, "\x25\x02"+octet+count)); e != want {
				t.Fatalf("Decode with a switch to the channel %d has the error %d, not %d", channel, e, want)
			}
		}
	}
}

func TestDecodeOfNumbersBeyondTheirLimits(t *testing.T) {
	rest := octetsOf(announcing())[4:]
	for _, stamp := range []string{"\x01\x00\x00\x01", "\x00\x01\x00\x01", "\x00\x00\x00\x02", "\x00\x00\x00\x80", "\x02\x01\x00\xff", "\xff\xff\xff\xff", "\xff\xff\xff\x7f"} {
		wantError(t, stamp+rest, api.ErrRange)
	}
	b := announcing()
	b.Stamp = lastSlot
	wantDecode(t, "\x00\x00\x00\x01"+rest, b, api.OK)
	wantError(t, "\x00\x00\x00\x00"+"\x00\x00"+rest[2:], api.ErrRange)
	data := dataOf(b, 12)
	for cat := range categories {
		for _, x := range []string{
			"\x00\x04\x0a\x00\x00", "\x01\x04\x0a\x00\x00", "\x10\x04\x0a\x00\x00", "\xff\x04\x0a\x00\x00",
			"\x07\x0b\x0a\x00\x00", "\x07\x0b\x0b\x00\x00", "\x07\x04\x0b\x00\x00", "\x07\x05\x04\x00\x00", "\x07\x04\xff\x00\x00", "\x07\xff\x0a\x00\x00", "\x07\xff\xff\x00\x00",
			"\x07\x04\x0a\x00\x80", "\x07\x04\x0a\xff\xff", "\x07\x04\x0a\x01\x80",
		} {
			wantError(t, replaced(b, 12, piece(12, data[:5*cat]+x+data[5*cat+5:])), api.ErrRange)
		}
	}
}

func TestDecodeOfNoMap(t *testing.T) {
	for _, x := range []struct {
		data string
		want api.Errno
	}{
		{"", api.ErrShort},
		{"\x00\x01\x00", api.ErrShort},
		{"\x00\x00\x00", api.ErrShort},
		{"\x00\x01\x00\x00\x00\x00\x00\x00\x00\x00\x00\x00", api.ErrLong},
		{"\x00\x00\x00\x00\x00\x00\x00\x00\x00\x00\x00\x00", api.ErrLong},
		{strings.Repeat("\x01", 255), api.ErrLong},
		{"\x00\x00\x00\x00", api.ErrRange},
		{"\x03\x03\x00\x00", api.ErrRange},
		{"\xff\xff\x00\x01", api.ErrRange},
		{"\x00\x01\x00\x01", api.ErrForm},
		{"\x00\x02\x01\x00\x00\x02\x80", api.ErrForm},
		{"\x00\x01\x00\x02\x00", api.ErrForm},
		{"\x00\x01\x02\x00", api.ErrForm},
		{"\x00\x01\x08\x01", api.ErrForm},
	} {
		for _, b := range samples() {
			wantError(t, replaced(b, 5, piece(5, x.data)), x.want)
		}
	}
}

// Every octet of a beacon with every value.
func TestDecodeOfEveryOctet(t *testing.T) {
	for _, b := range samples() {
		s := octetsOf(b)
		for i := range len(s) {
			for octet := range 256 {
				tryString(t, s[:i]+string([]byte{byte(octet)})+s[i+1:])
			}
		}
	}
}

// change makes octets, in which Decode finds no error, wrong in one respect; it changes the octets before the elements, one
// element (by its place), or what follows the elements.
type change struct {
	name  string
	place int
	x     string
	e     api.Errno
}

// The places of changes that are not elements.
const (
	before = -1
	behind = 6
)

// changes are in the order in which Decode looks for them; octets that are too few have no elements, so that nothing else is
// wrong with them.
func changes() []change {
	return []change{
		{"a list that is cut short", behind, "\x07", api.ErrShort},
		{"elements of which one is cut short", behind, "\x07\x02x", api.ErrShort},
		{"a second name", behind, "\x00\x01x", api.ErrForm},
		{"an early channel", 0, "\x03\x01\x06", api.ErrForm},
		{"a missing load", 3, "", api.ErrForm},
		{"a second map", 2, "\x05\x03\x00\x01\x00\x05\x03\x00\x01\x00", api.ErrForm},
		{"no channel", 1, "\x03\x00", api.ErrShort},
		{"two channels", 1, "\x03\x02\x06\x06", api.ErrLong},
		{"a short map", 2, "\x05\x03\x00\x01\x00", api.ErrShort},
		{"a long map", 2, "\x05\x0c\x00\x01\x00\xfe\xff\xff\xff\xff\xff\xff\xff\x00", api.ErrLong},
		{"a map without period", 2, "\x05\x04\x00\x00\x00\x00", api.ErrRange},
		{"a map of the identifier 0", 2, "\x05\x04\x00\x01\x00\x01", api.ErrForm},
		{"a short load", 3, "\x0b\x01\x03", api.ErrShort},
		{"a long load", 3, "\x0b\x03\x03\x00\x00", api.ErrLong},
		{"short parameters", 4, "\x0c\x13\x07\x04\x0a\x00\x00\x03\x04\x0a\x00\x00\x02\x03\x04\x5e\x00\x02\x02\x03\x2f", api.ErrShort},
		{"long parameters", 4, "\x0c\x15\x07\x04\x0a\x00\x00\x03\x04\x0a\x00\x00\x02\x03\x04\x5e\x00\x02\x02\x03\x2f\x00\x00", api.ErrLong},
		{"a short switch", 5, "\x25\x01\x00", api.ErrShort},
		{"a long switch", 5, "\x25\x03\x00\x00\x00", api.ErrLong},
		{"a switch without channel", 5, "\x25\x02\x00\x00", api.ErrForm},
		{"a late stamp", before, "\x01\x00\x00\x01\x64\x00", api.ErrRange},
		{"no interval", before, "\x02\x01\x00\x00\x00\x00", api.ErrRange},
		{"an empty name", 0, "\x00\x00", api.ErrShort},
		{"a long name", 0, "\x00\x21" + name(33), api.ErrLong},
		{"the channel 0", 1, "\x03\x01\x00", api.ErrRange},
		{"the channel 9", 1, "\x03\x01\x09", api.ErrRange},
		{"a switch to the channel 9", 5, "\x25\x02\x09\x00", api.ErrRange},
		{"bad parameters", 4, "\x0c\x14\x07\x04\x0b\x00\x00\x03\x04\x0a\x00\x00\x02\x03\x04\x5e\x00\x02\x02\x03\x2f\x00", api.ErrRange},
	}
}

// changed are the octets of a beacon with these changes.
func changed(l ...change) string {
	b := announcing()
	head, elements, tail := start(b), pieces(b), ""
	for _, c := range l {
		switch c.place {
		case before:
			head = c.x
		case behind:
			tail = c.x
		default:
			elements[c.place] = c.x
		}
	}
	return head + strings.Join(elements, "") + tail
}

func TestDecodeOfPairsOfErrors(t *testing.T) {
	wantDecode(t, changed(), announcing(), api.OK)
	for i, first := range changes() {
		wantError(t, changed(first), first.e)
		for _, second := range changes()[i+1:] {
			if first.place == second.place {
				continue
			}
			s := changed(first, second)
			if b, e := Decode(s); e != first.e || b != (api.Beacon{}) {
				t.Fatalf("Decode with %s and %s = %#v, %d, not nothing and %d", first.name, second.name, b, e, first.e)
			}
			tryString(t, s)
			// An earlier error of another place hides later ones, however many there are.
			for _, third := range changes()[i+1:] {
				if third.place != first.place && third.place != second.place {
					wantError(t, changed(first, second, third), first.e)
				}
			}
		}
	}
}

func TestDecodeOfFullAndShortLists(t *testing.T) {
	b := announcing()
	full := octetsOf(b) + strings.Repeat(piece(7, ""), mostElements-6)
	wantDecode(t, full, b, api.OK)
	wantError(t, full+"\x07", api.ErrFull)
	wantError(t, full+"\x07\x05x", api.ErrFull)
	wantError(t, full[:len(full)-1], api.ErrShort)
	// A list that is too long has a wrong order as well.
	wantError(t, full+piece(0, ""), api.ErrFull)
	wantError(t, strings.Repeat("\x00", headOctets)+strings.Repeat(piece(7, ""), mostElements+1), api.ErrFull)
	wantError(t, strings.Repeat("\x00", headOctets)+strings.Repeat(piece(7, ""), mostElements), api.ErrForm)
}

// P14.5

func TestDecodeOfWhatEncodeReturns(t *testing.T) {
	r := rand.New(rand.NewSource(14))
	for range 30000 {
		tryBeacon(t, randomBeacon(r))
	}
}

// randomUnknown returns an element with an ID that is not known.
func randomUnknown(r *rand.Rand) string {
	id := r.Intn(256)
	for slices.Contains(knownIDs, id) {
		id = r.Intn(256)
	}
	data := make([]byte, anyOf(r, 0, 255))
	r.Read(data)
	return piece(id, string(data))
}

// withUnknown returns the elements of b and up to most others, anywhere.
func withUnknown(r *rand.Rand, b api.Beacon, most int) []string {
	l := pieces(b)
	for range r.Intn(most + 1) {
		l = slices.Insert(l, r.Intn(len(l)+1), randomUnknown(r))
	}
	return l
}

func TestDecodeWithUnknownElementsAnywhere(t *testing.T) {
	r := rand.New(rand.NewSource(41))
	for range 10000 {
		b := randomBeacon(r)
		s := joined(b, withUnknown(r, b, mostElements-6)...)
		wantDecode(t, s, b, api.OK)
		if !tryString(t, s) {
			t.Fatalf("%x is not valid", s)
		}
	}
}

// No two beacons have the same octets.
func TestOctetsDiffer(t *testing.T) {
	seen := map[string]api.Beacon{}
	for _, base := range samples() {
		for _, f := range fields() {
			for _, n := range []int{f.low, f.low + 1, f.low + 2, f.high - 1, f.high} {
				b := base
				f.set(&b, n)
				s, e := Encode(b)
				if e != api.OK {
					continue
				}
				if other, twice := seen[s]; twice && other != b {
					t.Fatalf("%#v and %#v have the octets %x", other, b, s)
				}
				seen[s] = b
			}
		}
	}
}

// P14.6

// disturbed returns the octets of l with a few changes.
func disturbed(r *rand.Rand, l []string) string {
	for range r.Intn(3) {
		i, k := r.Intn(len(l)), r.Intn(len(l))
		switch r.Intn(5) {
		case 0:
			l[i], l[k] = l[k], l[i]
		case 1:
			l = slices.Insert(l, i, l[k])
		case 2:
			// The one that stays keeps the list from being empty.
			if len(l) > 1 {
				l = slices.Delete(l, i, i+1)
			}
		}
	}
	s := []byte(strings.Join(l, ""))
	for range r.Intn(4) {
		if len(s) == 0 {
			break
		}
		i := r.Intn(len(s))
		switch r.Intn(6) {
		case 0:
			s[i] = byte(r.Intn(256))
		case 1:
			s[i] += byte(r.Intn(5) - 2)
		case 2:
			s[i] = byte(r.Intn(3))
		case 3:
			s = slices.Delete(s, i, i+1)
		case 4:
			s = slices.Insert(s, i, byte(r.Intn(4)))
		}
	}
	return string(s)
}

func TestDecodeOfDisturbedOctets(t *testing.T) {
	r := rand.New(rand.NewSource(6))
	valid, total := 0, 200000
	for range total {
		b := randomBeacon(r)
		if tryString(t, disturbed(r, slices.Insert(withUnknown(r, b, 3), 0, start(b)))) {
			valid++
		}
	}
	if valid < total/10 || valid > total*9/10 {
		t.Fatalf("%d of %d strings are valid", valid, total)
	}
}

func TestDecodeOfRandomOctets(t *testing.T) {
	r := rand.New(rand.NewSource(7))
	for range 100000 {
		s := make([]byte, r.Intn(80))
		r.Read(s)
		for i := headOctets; i < len(s); i++ {
			if r.Intn(2) == 0 {
				s[i] = byte(knownIDs[r.Intn(len(knownIDs))])
			}
		}
		tryString(t, string(s))
	}
}

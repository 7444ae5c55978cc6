package element

import (
	"math"
	"math/rand"
	"slices"
	"strings"
	"testing"

	"airtime/api"
)

// The limits as the chapter states them, so that a changed constant of the program is noticed.
const (
	mostElements = 32
	greatestID   = 255
	mostOctets   = 255
)

// noIDs are ints that are no IDs: those beside the IDs, the ends of int, and others, also ones that are IDs modulo 2^8, 2^16 or 2^32.
var noIDs = []int{-1, -2, -128, -255, -256, -257, 256, 257, 259, 300, 511, 512, 1 << 16, 1<<16 + 3, math.MinInt32, math.MaxInt32,
	1 << 32, 1<<32 + 3, -1 << 32, -1<<32 + 3, math.MinInt, math.MinInt + 3, math.MaxInt - 3, math.MaxInt}

// noLengths are numbers of octets that no data has; some are such numbers modulo 2^8 or 2^16.
var noLengths = []int{256, 257, 258, 300, 511, 512, 513, 1024, 65535, 65536, 65537}

// el is the element with this ID and data.
func el(id int, data string) api.Element {
	return api.Element{ID: id, Data: data}
}

// filled are n octets, which are not all the same.
func filled(n int) string {
	b := make([]byte, n)
	for i := range b {
		b[i] = byte(7*i + 1)
	}
	return string(b)
}

// numbered is a list of n elements with different IDs and data, for n up to 256.
func numbered(n int) []api.Element {
	l := []api.Element{}
	for i := range n {
		l = append(l, el(i, filled(i)))
	}
	return l
}

// joined are the elements of several lists.
func joined(lists ...[]api.Element) []api.Element {
	return slices.Concat(lists...)
}

// octetsOf are the octets of l as the chapter defines them; l is a list.
func octetsOf(l []api.Element) string {
	s := ""
	for _, e := range l {
		s += string([]byte{byte(e.ID), byte(len(e.Data))}) + e.Data
	}
	return s
}

// smallLists are the lists of up to three elements whose IDs and data consist of a few values, so that IDs are repeated
// and lists differ in only one place.
func smallLists() [][]api.Element {
	var all []api.Element
	for id := range 3 {
		for _, data := range []string{"", "\x00", "\x01", "ab"} {
			all = append(all, el(id, data))
		}
	}
	lists := [][]api.Element{nil}
	from := 0
	for range 3 {
		to := len(lists)
		for _, l := range lists[from:to] {
			for _, e := range all {
				lists = append(lists, joined(l, []api.Element{e}))
			}
		}
		from = to
	}
	return lists
}

// randomLists are lists of 0 to MaxElements elements with any octets; they are the same in every run.
func randomLists() [][]api.Element {
	r := rand.New(rand.NewSource(9))
	var lists [][]api.Element
	for i := range 660 {
		// With few IDs some are repeated, and with all of them most are not.
		ids := []int{1, 5, greatestID + 1}[i/(mostElements+1)%3]
		var l []api.Element
		for range i % (mostElements + 1) {
			data := make([]byte, r.Intn(mostOctets+1))
			r.Read(data)
			l = append(l, el(r.Intn(ids), string(data)))
		}
		lists = append(lists, l)
	}
	return lists
}

// invalidLists are lists that Check rejects, with some of the elements that smallLists and randomLists have.
func invalidLists() [][]api.Element {
	lists := [][]api.Element{
		numbered(mostElements + 1), numbered(100), make([]api.Element, mostElements+1), make([]api.Element, 1000),
		{el(-1, "x"), el(0, "y"), el(-1, "z")},
		{el(0, "y"), el(256, "x"), el(256, ""), el(0, "z")},
		{el(math.MinInt, "x"), el(math.MaxInt, "y"), el(math.MinInt, "z"), el(1, "")},
		{el(1, filled(256)), el(2, filled(300)), el(1, "x")},
		{el(1<<32+1, "x"), el(257, "y"), el(1, "z")},
		{el(-1, filled(300)), el(256, filled(256))},
	}
	for i := range 40 {
		l := numbered(i)
		l = append(l, el(noIDs[i%len(noIDs)], filled(i)), el(0, filled(noLengths[i%len(noLengths)])))
		lists = append(lists, l)
	}
	return lists
}

// anyLists are lists of every sort, also ones that Check rejects.
func anyLists() [][]api.Element {
	return slices.Concat([][]api.Element{nil, {}}, smallLists(), randomLists(), invalidLists())
}

// anyIDs are IDs that the lists have, IDs that few of them have, and ints that are no IDs.
var anyIDs = append([]int{0, 1, 2, 3, 4, 7, 31, 32, 33, 128, 254, 255}, noIDs...)

// wantCheck checks the result of Check, and that Encode returns the same error.
func wantCheck(t *testing.T, l []api.Element, want api.Errno) {
	t.Helper()
	if got := Check(l); got != want {
		t.Errorf("Check of %d elements is %d, want %d", len(l), got, want)
	}
	s, got := Encode(l)
	if got != want {
		t.Errorf("Encode of %d elements has the error %d, want %d", len(l), got, want)
	}
	if want != api.OK && s != "" {
		t.Errorf("Encode of %d elements has the error %d, and the octets %x", len(l), got, s)
	}
}

// wantEncode checks that Encode returns these octets.
func wantEncode(t *testing.T, l []api.Element, want string) {
	t.Helper()
	if got, e := Encode(l); got != want || e != api.OK {
		t.Errorf("Encode of %d elements is %x with error %d, want %x", len(l), got, e, want)
	}
}

// wantDecode checks that Decode returns these elements.
func wantDecode(t *testing.T, s string, want []api.Element) {
	t.Helper()
	if got, e := Decode(s); !slices.Equal(got, want) || e != api.OK {
		t.Errorf("Decode of %d octets %.40x is %d elements with error %d, want %d", len(s), s, len(got), e, len(want))
	}
}

// wantFault checks that Decode returns this error and no elements.
func wantFault(t *testing.T, s string, want api.Errno) {
	t.Helper()
	if got, e := Decode(s); len(got) != 0 || e != want {
		t.Errorf("Decode of %d octets %.40x is %d elements with error %d, want the error %d", len(s), s, len(got), e, want)
	}
}

// wantFind checks the result of Find.
func wantFind(t *testing.T, l []api.Element, id int, want string, wantOK bool) {
	t.Helper()
	if got, ok := Find(l, id); got != want || ok != wantOK {
		t.Errorf("Find of %d in %d elements is %.20q, %v, want %.20q, %v", id, len(l), got, ok, want, wantOK)
	}
}

// wantWith checks the result of With.
func wantWith(t *testing.T, l []api.Element, e api.Element, want []api.Element) {
	t.Helper()
	if got := With(l, e); !slices.Equal(got, want) {
		t.Errorf("With of ID %d in %d elements is %d elements, and not the %d elements that it should be", e.ID, len(l), len(got), len(want))
	}
}

// P9.1

func TestCheckOfTheExample(t *testing.T) {
	wantCheck(t, []api.Element{el(256, filled(300))}, api.ErrRange)
}

func TestCheckOfNumbersOfElements(t *testing.T) {
	wantCheck(t, nil, api.OK)
	wantCheck(t, []api.Element{}, api.OK)
	for n := range mostElements + 1 {
		wantCheck(t, numbered(n), api.OK)
		wantCheck(t, make([]api.Element, n), api.OK)
	}
	for _, n := range []int{mostElements + 1, mostElements + 2, 64, 255, 256} {
		wantCheck(t, numbered(n), api.ErrFull)
		wantCheck(t, make([]api.Element, n), api.ErrFull)
	}
	// These are numbers of elements that a list may have, modulo 2^8 or 2^16.
	for _, n := range []int{257, 1 << 16, 1<<16 + 1} {
		wantCheck(t, make([]api.Element, n), api.ErrFull)
	}
}

func TestCheckOfIDs(t *testing.T) {
	for id := range greatestID + 1 {
		wantCheck(t, []api.Element{el(id, "x")}, api.OK)
	}
	for _, id := range noIDs {
		wantCheck(t, []api.Element{el(id, "")}, api.ErrRange)
		wantCheck(t, []api.Element{el(id, "x")}, api.ErrRange)
	}
}

func TestCheckOfNumbersOfOctets(t *testing.T) {
	for n := range mostOctets + 1 {
		wantCheck(t, []api.Element{el(0, filled(n))}, api.OK)
		wantCheck(t, []api.Element{el(greatestID, filled(n))}, api.OK)
	}
	for _, n := range noLengths {
		wantCheck(t, []api.Element{el(0, filled(n))}, api.ErrLong)
		wantCheck(t, []api.Element{el(greatestID, filled(n))}, api.ErrLong)
		wantCheck(t, []api.Element{el(0, strings.Repeat("\x00", n))}, api.ErrLong)
	}
	// Octets are counted, not characters, of which these are 128.
	wantCheck(t, []api.Element{el(0, strings.Repeat("é", 127)+"a")}, api.OK)
	wantCheck(t, []api.Element{el(0, strings.Repeat("é", 128))}, api.ErrLong)
}

func TestCheckAtEveryPlace(t *testing.T) {
	for place := range mostElements {
		for _, id := range noIDs {
			l := numbered(mostElements)
			l[place].ID = id
			wantCheck(t, l, api.ErrRange)
			wantCheck(t, l[:place+1], api.ErrRange)
			wantCheck(t, l[:place], api.OK)
		}
		for _, n := range noLengths {
			l := numbered(mostElements)
			l[place].Data = filled(n)
			wantCheck(t, l, api.ErrLong)
			wantCheck(t, l[:place+1], api.ErrLong)
			wantCheck(t, l[:place], api.OK)
		}
	}
}

func TestCheckReturnsTheErrorOfTheFirstElementWithOne(t *testing.T) {
	badID, badData, both := el(-1, "x"), el(1, filled(256)), el(math.MaxInt, filled(300))
	for _, c := range []struct {
		l    []api.Element
		want api.Errno
	}{
		{[]api.Element{both}, api.ErrRange},
		{[]api.Element{el(-1, filled(256))}, api.ErrRange},
		{[]api.Element{badID, badData}, api.ErrRange},
		{[]api.Element{badData, badID}, api.ErrLong},
		{[]api.Element{badData, both}, api.ErrLong},
		{[]api.Element{both, badData}, api.ErrRange},
		{[]api.Element{el(0, ""), badData, el(1, "x"), badID}, api.ErrLong},
		{[]api.Element{el(0, ""), badID, el(1, "x"), badData}, api.ErrRange},
		{joined(numbered(30), []api.Element{badData, badID}), api.ErrLong},
		{joined(numbered(30), []api.Element{badID, badData}), api.ErrRange},
	} {
		wantCheck(t, c.l, c.want)
	}
}

func TestCheckOfTooManyElementsComesFirst(t *testing.T) {
	for _, bad := range []api.Element{el(-1, "x"), el(256, ""), el(1, filled(256)), el(-1, filled(300))} {
		for place := range mostElements + 1 {
			l := make([]api.Element, mostElements+1)
			l[place] = bad
			wantCheck(t, l, api.ErrFull)
		}
		wantCheck(t, slices.Repeat([]api.Element{bad}, mostElements+1), api.ErrFull)
	}
}

func TestCheckAllowsAnIDTwice(t *testing.T) {
	wantCheck(t, []api.Element{el(3, "x"), el(3, "y"), el(3, "x")}, api.OK)
	wantCheck(t, slices.Repeat([]api.Element{el(greatestID, filled(mostOctets))}, mostElements), api.OK)
}

// P9.2

func TestEncodeWithExamples(t *testing.T) {
	for _, c := range []struct {
		l    []api.Element
		want string
	}{
		{[]api.Element{el(3, "x"), el(0, "")}, "\x03\x01\x78\x00\x00"},
		{[]api.Element{el(0, ""), el(3, "x")}, "\x00\x00\x03\x01\x78"},
		{nil, ""},
		{[]api.Element{}, ""},
		{[]api.Element{el(0, "")}, "\x00\x00"},
		{[]api.Element{el(255, "\xff\x00")}, "\xff\x02\xff\x00"},
		{[]api.Element{el(127, "é")}, "\x7f\x02\xc3\xa9"},
		{[]api.Element{el(128, filled(255))}, "\x80\xff" + filled(255)},
		{[]api.Element{el(10, "\x0a\x01"), el(1, "\x00")}, "\x0a\x02\x0a\x01\x01\x01\x00"},
		{[]api.Element{el(3, "x"), el(3, "x")}, "\x03\x01x\x03\x01x"},
		{make([]api.Element, 32), strings.Repeat("\x00\x00", 32)},
	} {
		wantEncode(t, c.l, c.want)
	}
}

func TestEncodeOfEveryIDAndNumberOfOctets(t *testing.T) {
	for id := range greatestID + 1 {
		wantEncode(t, []api.Element{el(id, "ab")}, string([]byte{byte(id), 2, 'a', 'b'}))
	}
	for n := range mostOctets + 1 {
		wantEncode(t, []api.Element{el(5, filled(n))}, string([]byte{5, byte(n)})+filled(n))
	}
}

func TestEncodeOfEveryOctet(t *testing.T) {
	for octet := range 256 {
		data := string([]byte{byte(octet)})
		wantEncode(t, []api.Element{el(9, data)}, "\x09\x01"+data)
	}
}

func TestEncodeOfManyLists(t *testing.T) {
	for n := range mostElements + 1 {
		wantEncode(t, numbered(n), octetsOf(numbered(n)))
	}
	for _, l := range slices.Concat(smallLists(), randomLists()) {
		wantEncode(t, l, octetsOf(l))
	}
}

func TestEncodeOfListsThatCheckRejects(t *testing.T) {
	for i, l := range invalidLists() {
		want := Check(l)
		if want == api.OK {
			t.Errorf("invalid list %d is accepted", i)
		}
		if s, e := Encode(l); s != "" || e != want {
			t.Errorf("Encode of invalid list %d is %d octets with error %d, want the error %d", i, len(s), e, want)
		}
	}
}

// P9.3

func TestDecodeWithExamples(t *testing.T) {
	wantFault(t, "\x03\x01", api.ErrShort)
	wantDecode(t, "", nil)
	for _, c := range []struct {
		s    string
		want []api.Element
	}{
		{"\x03\x01\x78\x00\x00", []api.Element{el(3, "x"), el(0, "")}},
		{"\x00\x00", []api.Element{el(0, "")}},
		{"\xff\x00", []api.Element{el(255, "")}},
		{"\xff\x02\xff\x00", []api.Element{el(255, "\xff\x00")}},
		{"\x03\x01x\x03\x01x", []api.Element{el(3, "x"), el(3, "x")}},
		{"\x01\x02\x01\x02\x02\x01\x00", []api.Element{el(1, "\x01\x02"), el(2, "\x00")}},
		{"\x80\xff" + filled(255), []api.Element{el(128, filled(255))}},
		{"\x80\xff" + filled(255) + "\x80\x80" + filled(128), []api.Element{el(128, filled(255)), el(128, filled(128))}},
	} {
		wantDecode(t, c.s, c.want)
	}
}

func TestDecodeOfEveryIDNumberOfOctetsAndOctet(t *testing.T) {
	for i := range 256 {
		octet := string([]byte{byte(i)})
		wantDecode(t, octet+"\x02ab", []api.Element{el(i, "ab")})
		wantDecode(t, "\x05"+octet+filled(i), []api.Element{el(5, filled(i))})
		wantDecode(t, "\x09\x01"+octet, []api.Element{el(9, octet)})
	}
}

// shortStrings are the strings of up to longest octets from 0 to digits-1, in the order of their lengths.
func shortStrings(digits, longest int) []string {
	l := []string{""}
	from := 0
	for range longest {
		to := len(l)
		for _, s := range l[from:to] {
			for d := range digits {
				l = append(l, s+string([]byte{byte(d)}))
			}
		}
		from = to
	}
	return l
}

func TestDecodeOfAllShortStrings(t *testing.T) {
	const digits, longest = 4, 6
	strs := shortStrings(digits, longest)
	// lists[s] is the list whose octets are s: a string that is no such octets is missing here.
	lists := map[string][]api.Element{"": nil}
	// The octets of a list without its last element are shorter, so that they are known already.
	for _, before := range strs {
		l, ok := lists[before]
		if !ok {
			continue
		}
		for id := range digits {
			for _, data := range shortStrings(digits, digits-1) {
				longer := joined(l, []api.Element{el(id, data)})
				lists[octetsOf(longer)] = longer
			}
		}
	}
	for _, s := range strs {
		if l, ok := lists[s]; ok {
			wantDecode(t, s, l)
		} else {
			wantFault(t, s, api.ErrShort)
		}
	}
}

func TestDecodeOfStringsThatEndTooEarly(t *testing.T) {
	l := []api.Element{el(3, "xyz"), el(0, ""), el(255, filled(255)), el(1, "\x00")}
	// An element begins at, and the string may end at, each of these.
	begins := []int{0, 5, 7, 264, 267}
	s := octetsOf(l)
	for n := range len(s) + 1 {
		if i := slices.Index(begins, n); i >= 0 {
			wantDecode(t, s[:n], l[:i])
		} else {
			wantFault(t, s[:n], api.ErrShort)
		}
	}
	for _, before := range []int{0, 1, 5, mostElements - 1} {
		start := octetsOf(numbered(before))
		wantDecode(t, start, numbered(before))
		wantFault(t, start+"\x00", api.ErrShort)
		wantFault(t, start+"\xff", api.ErrShort)
		for n := 1; n <= mostOctets; n++ {
			head := string([]byte{7, byte(n)})
			wantFault(t, start+head, api.ErrShort)
			wantFault(t, start+head+filled(n/2), api.ErrShort)
			wantFault(t, start+head+filled(n-1), api.ErrShort)
			wantDecode(t, start+head+filled(n), append(numbered(before), el(7, filled(n))))
		}
	}
}

func TestDecodeBehindTheLastElement(t *testing.T) {
	for _, full := range [][]api.Element{numbered(mostElements), make([]api.Element, mostElements), slices.Repeat([]api.Element{el(255, filled(255))}, mostElements)} {
		s := octetsOf(full)
		wantDecode(t, s, full)
		for _, more := range []string{
			"\x00\x00", "\x03\x01x", "\xff\xff" + filled(255), "\x00\x00\x00\x00", strings.Repeat("\x00\x00", 300), // whole
			"\x00", "\xff", "\x03\x01", "\x03\x02x", "\x03\xff" + filled(254), "\x00\x00\x00", "\x03\x01x\x03", // not whole
		} {
			wantFault(t, s+more, api.ErrFull)
		}
	}
}

func TestDecodeReturnsTheErrorOfTheFirstElementWithOne(t *testing.T) {
	// An element without its end takes all octets behind it, so that they are not elements too many.
	for place := range mostElements {
		s := octetsOf(make([]api.Element, place))
		wantFault(t, s+"\x00\xff"+strings.Repeat("\x00\x00", 127), api.ErrShort)
		wantFault(t, s+"\x00\x41"+strings.Repeat("\x00", 64), api.ErrShort)
		wantDecode(t, s+"\x00\x40"+strings.Repeat("\x00", 64), append(make([]api.Element, place), el(0, strings.Repeat("\x00", 64))))
	}
	wantFault(t, strings.Repeat("\x00\x00", mostElements)+"\x00\xff"+strings.Repeat("\x00\x00", 127), api.ErrFull)
}

func TestDecodeOfManyLists(t *testing.T) {
	for n := range mostElements + 1 {
		wantDecode(t, octetsOf(numbered(n)), numbered(n))
	}
	for _, l := range slices.Concat(smallLists(), randomLists()) {
		wantDecode(t, octetsOf(l), l)
	}
}

// P9.4

func TestFindWithExamples(t *testing.T) {
	l := []api.Element{el(3, "x"), el(0, ""), el(3, "second"), el(255, "last"), el(0, "not empty")}
	wantFind(t, l, 3, "x", true)
	wantFind(t, l, 0, "", true)
	wantFind(t, l, 255, "last", true)
	for _, id := range append([]int{1, 2, 4, 128, 254}, noIDs...) {
		wantFind(t, l, id, "", false)
		wantFind(t, nil, id, "", false)
		wantFind(t, []api.Element{}, id, "", false)
	}
}

func TestFindAtEveryPlace(t *testing.T) {
	for first := range mostElements {
		for second := first + 1; second <= mostElements; second++ {
			l := make([]api.Element, mostElements)
			l[first] = el(7, "first")
			if second < mostElements {
				l[second] = el(7, "second")
			}
			wantFind(t, l, 7, "first", true)
			wantFind(t, l, 8, "", false)
		}
	}
}

func TestFindInListsThatCheckRejects(t *testing.T) {
	wantFind(t, numbered(256), 255, filled(255), true)
	for _, id := range noIDs {
		l := append(slices.Repeat([]api.Element{el(77, "other")}, 40), el(id, filled(300)), el(id, "second"))
		wantFind(t, l, id, filled(300), true)
		// An ID is the same only as a whole, not modulo 2^8 or 2^32.
		wantFind(t, l, id+256, "", false)
		wantFind(t, l, id+1<<32, "", false)
		wantFind(t, l, id^1, "", false)
	}
}

func TestFindInManyLists(t *testing.T) {
	for _, l := range anyLists() {
		for _, id := range anyIDs {
			want, wantOK := "", false
			for i := len(l) - 1; i >= 0; i-- {
				if l[i].ID == id {
					want, wantOK = l[i].Data, true
				}
			}
			wantFind(t, l, id, want, wantOK)
		}
	}
}

// P9.5

func TestWithWithExamples(t *testing.T) {
	l := []api.Element{el(3, "x"), el(0, ""), el(3, "second")}
	for _, c := range []struct {
		l    []api.Element
		e    api.Element
		want []api.Element
	}{
		{l, el(3, "new"), []api.Element{el(3, "new"), el(0, ""), el(3, "second")}},
		{l, el(3, ""), []api.Element{el(3, ""), el(0, ""), el(3, "second")}},
		{l, el(3, "x"), l},
		{l, el(0, "new"), []api.Element{el(3, "x"), el(0, "new"), el(3, "second")}},
		{l, el(9, "new"), []api.Element{el(3, "x"), el(0, ""), el(3, "second"), el(9, "new")}},
		{l, el(1, ""), []api.Element{el(3, "x"), el(0, ""), el(3, "second"), el(1, "")}},
		{nil, el(0, ""), []api.Element{el(0, "")}},
		{[]api.Element{}, el(5, "new"), []api.Element{el(5, "new")}},
		{[]api.Element{el(5, "old")}, el(5, "new"), []api.Element{el(5, "new")}},
	} {
		wantWith(t, c.l, c.e, c.want)
	}
}

func TestWithOfListsAndElementsThatCheckRejects(t *testing.T) {
	full := numbered(mostElements)
	wantWith(t, full, el(200, "new"), append(numbered(mostElements), el(200, "new")))
	wantWith(t, numbered(100), el(200, "new"), append(numbered(100), el(200, "new")))
	for _, id := range noIDs {
		l := []api.Element{el(77, "x"), el(id, filled(300)), el(id, "second"), el(id^1, "other")}
		wantWith(t, l, el(id, "new"), []api.Element{el(77, "x"), el(id, "new"), el(id, "second"), el(id^1, "other")})
		wantWith(t, l, el(id+256, "new"), append(slices.Clone(l), el(id+256, "new")))
		wantWith(t, l, el(id^1, filled(256)), []api.Element{el(77, "x"), el(id, filled(300)), el(id, "second"), el(id^1, filled(256))})
		wantWith(t, nil, el(id, filled(300)), []api.Element{el(id, filled(300))})
	}
}

func TestWithInManyLists(t *testing.T) {
	for _, l := range anyLists() {
		for _, id := range anyIDs {
			e := el(id, "in place of it")
			var want []api.Element
			replaced := false
			for _, old := range l {
				if old.ID == id && !replaced {
					old, replaced = e, true
				}
				want = append(want, old)
			}
			if !replaced {
				want = append(want, e)
			}
			wantWith(t, l, e, want)
		}
	}
}

// P9.6

func TestDecodeOfTheOctetsOfAList(t *testing.T) {
	for _, l := range anyLists() {
		s, e := Encode(l)
		if e != api.OK {
			continue
		}
		wantDecode(t, s, l)
	}
}

func TestEncodeOfTheElementsOfOctets(t *testing.T) {
	accepted := 0
	try := func(s string) {
		l, e := Decode(s)
		if e != api.OK {
			return
		}
		accepted++
		wantEncode(t, l, s)
		wantCheck(t, l, api.OK)
	}
	r := rand.New(rand.NewSource(10))
	for i := range 40000 {
		b := make([]byte, i%100)
		for j := range b {
			// Small octets are likelier to be the lengths of data that ends within the string.
			if b[j] = byte(r.Intn(6)); r.Intn(8) == 0 {
				b[j] = byte(r.Intn(256))
			}
		}
		try(string(b))
	}
	for a := range 256 {
		for b := range 256 {
			try(string([]byte{byte(a), byte(b)}))
			try(string([]byte{byte(a), byte(b), 'x'}))
			try(string([]byte{byte(a), byte(b)}) + filled(b))
		}
	}
	if accepted < 10000 {
		t.Errorf("only %d strings were accepted", accepted)
	}
}

// P9.7

func TestFindAfterWith(t *testing.T) {
	for _, l := range anyLists() {
		for _, id := range anyIDs {
			for _, data := range []string{"", "\x00", "new", filled(255), filled(300)} {
				m := With(l, el(id, data))
				wantFind(t, m, id, data, true)
				if got, want := len(m), len(l)+absent(l, id); got != want {
					t.Errorf("With of ID %d has %d elements, want %d", id, got, want)
				}
			}
			m := With(l, el(id, "new"))
			for _, other := range anyIDs {
				if other == id {
					continue
				}
				data, ok := Find(l, other)
				wantFind(t, m, other, data, ok)
			}
		}
	}
}

// absent is 1 if Find finds no element of l with the ID, and 0 if it does.
func absent(l []api.Element, id int) int {
	if _, ok := Find(l, id); ok {
		return 0
	}
	return 1
}

// R5

// roomy is a copy of l whose slice has room for more elements; what lies there is returned as well, and is not empty.
func roomy(l []api.Element) (copied, room []api.Element) {
	b := append(slices.Clone(l), el(77, "behind"), el(78, "the"), el(79, "end"))
	return b[:len(l)], b[len(l):]
}

func TestArgumentsAreNotModified(t *testing.T) {
	behind := []api.Element{el(77, "behind"), el(78, "the"), el(79, "end")}
	for _, l := range anyLists() {
		given, room := roomy(l)
		unchanged := func(call string) {
			t.Helper()
			if !slices.Equal(given, l) {
				t.Fatalf("%s changes its list", call)
			}
			if !slices.Equal(room, behind) {
				t.Fatalf("%s changes what lies behind the end of its list", call)
			}
		}
		Check(given)
		unchanged("Check")
		Encode(given)
		unchanged("Encode")
		for _, id := range append([]int{77, 78}, anyIDs...) {
			Find(given, id)
			unchanged("Find")
			m := With(given, el(id, "new"))
			unchanged("With")
			// The result is new memory: whatever is done with it, the list stays.
			for i := range m {
				m[i] = el(-7, "gone")
			}
			m = append(m, el(-8, "gone"))
			clear(m[:cap(m)])
			unchanged("a change of the result of With")
		}
	}
}

func TestTheRoomBehindAListIsNotPartOfIt(t *testing.T) {
	wantFind(t, numbered(40)[:3], 3, "", false)
	wantCheck(t, numbered(40)[:mostElements], api.OK)
	for _, l := range anyLists() {
		given, _ := roomy(l)
		wantCheck(t, given, Check(l))
		s, e := Encode(l)
		if got, gotErr := Encode(given); got != s || gotErr != e {
			t.Errorf("Encode of %d elements with room behind them is %d octets with error %d, want %d with error %d", len(l), len(got), gotErr, len(s), e)
		}
		for _, id := range []int{77, 78, 79} {
			data, ok := Find(l, id)
			wantFind(t, given, id, data, ok)
			wantWith(t, given, el(id, "new"), With(l, el(id, "new")))
		}
	}
}

func TestResultsAreNewMemory(t *testing.T) {
	for _, l := range slices.Concat(smallLists(), randomLists()) {
		s := octetsOf(l)
		first, _ := Decode(s)
		clear(first[:cap(first)])
		wantDecode(t, s, l)

		want := With(l, el(1, "new"))
		first = With(l, el(1, "new"))
		second := With(l, el(1, "new"))
		clear(first[:cap(first)])
		if !slices.Equal(second, want) {
			t.Errorf("two results of With share memory")
		}
	}
}

func TestNilAndEmptyListsAreTheSame(t *testing.T) {
	given, _ := roomy(nil)
	for _, l := range [][]api.Element{nil, {}, given} {
		wantCheck(t, l, api.OK)
		wantEncode(t, l, "")
		wantFind(t, l, 77, "", false)
		wantWith(t, l, el(77, "x"), []api.Element{el(77, "x")})
	}
}

// R1

func TestEveryCallReturns(t *testing.T) {
	long := filled(70000)
	for _, l := range append(anyLists(), slices.Repeat([]api.Element{el(math.MinInt, long)}, 1000)) {
		Check(l)
		Encode(l)
		for _, id := range anyIDs {
			Find(l, id)
			With(l, el(id, long))
		}
	}
	for _, octet := range []string{"\x00", "\x01", "\x7f", "\x80", "\xfe", "\xff"} {
		for n := range 1000 {
			Decode(strings.Repeat(octet, n))
		}
		Decode(strings.Repeat(octet, 1<<20))
	}
}

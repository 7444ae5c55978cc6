package manage

import (
	"math"
	"math/rand"
	"slices"
	"strings"
	"testing"

	"airtime/api"
)

// frameKinds are all kinds of frames, and numbers that are none.
func frameKinds() []int {
	l := []int{math.MinInt, -1 << 32, -4, -1, 0, 255, 256, 256 + api.KindAuth, 256 + api.KindAction, 1 << 32, 1<<32 + api.KindDeauth, math.MaxInt}
	for kind := 1; kind <= api.KindNull+3; kind++ {
		l = append(l, kind)
	}
	return l
}

// carriers are the kinds of frames that carry bodies, as the chapter's table lists them.
var carriers = []int{api.KindAuth, api.KindAssocRequest, api.KindAssocResponse, api.KindReassocRequest, api.KindReassocResponse, api.KindDisassoc, api.KindDeauth, api.KindAction}

// numberOf is the number with the octets s, the least significant one first.
func numberOf(s string) int {
	n := 0
	for i := len(s) - 1; i >= 0; i-- {
		n = 256*n + int(s[i])
	}
	return n
}

// parse puts the field whose octets s begins with into b, and returns the rest of s, and whether s has these octets.
func parse(b *api.Body, field, s string) (string, bool) {
	size := 1
	switch field {
	case "Old":
		size = 6
	case "Plan":
		size = 12
	}
	for _, n := range numerics(b.Kind) {
		if n.name == field {
			size = n.size
		}
	}
	if len(s) < size || field == "Name" && len(s) < size+int(s[0]) {
		return "", false
	}
	switch field {
	case "Name":
		size += int(s[0])
		b.Name = s[1:size]
	case "Old":
		for i := range 6 {
			b.Old = 256*b.Old + api.Addr(s[i])
		}
	case "Plan":
		b.Plan = api.Plan{First: numberOf(s[:4]), Period: numberOf(s[4:8]), Length: numberOf(s[8:12])}
	}
	for _, n := range numerics(b.Kind) {
		if n.name == field {
			*n.at(b) = numberOf(s[:size])
		}
	}
	return s[size:], true
}

// decoded is what the chapter says of Decode, in its steps.
func decoded(kind int, s string) (api.Body, api.Errno) {
	var kinds []int
	for _, r := range rows {
		if slices.Contains(r.frames, kind) {
			kinds = append(kinds, r.kind)
		}
	}
	switch {
	case len(kinds) == 0:
		return api.Body{}, api.ErrForm
	case s == "":
		return api.Body{}, api.ErrShort
	case !slices.Contains(kinds, int(s[0])):
		return api.Body{}, api.ErrForm
	}
	b := api.Body{Kind: int(s[0])}
	r, _ := rowOf(b.Kind)
	rest, ok := s[1:], true
	for _, f := range r.fields {
		if rest, ok = parse(&b, f, rest); !ok {
			return api.Body{}, api.ErrShort
		}
	}
	if rest != "" {
		return api.Body{}, api.ErrLong
	}
	if e := checked(b); e != api.OK {
		return api.Body{}, e
	}
	return b, api.OK
}

// tryString compares all that the chapter says of the body of a string, valid or not, and reports whether it is valid.
func tryString(t *testing.T, kind int, s string) bool {
	t.Helper()
	want, wantErr := decoded(kind, s)
	b, e := Decode(kind, s)
	if b != want || e != wantErr {
		t.Fatalf("Decode(%d, %x) = %#v, %d, not %#v and %d", kind, s, b, e, want, wantErr)
	}
	if e != api.OK {
		return false
	}
	if e := Check(b); e != api.OK {
		t.Fatalf("Decode(%d, %x) = %#v, which Check calls %d", kind, s, b, e)
	}
	if same, e := Encode(b); same != s || e != api.OK {
		t.Fatalf("Encode(%#v) = %x, %d, not %x and OK", b, same, e, s)
	}
	return true
}

// framesOf are the kinds of frames that carry bodies of this kind.
func framesOf(kind int) []int {
	r, _ := rowOf(kind)
	return r.frames
}

// P15.3

func TestDecodeOfTheExamples(t *testing.T) {
	wantDecode(t, api.KindDeauth, "\x05\x03", api.Body{Kind: api.BodyReason, Status: 3}, api.OK)
	wantDecode(t, api.KindDisassoc, "\x05\x03", api.Body{Kind: api.BodyReason, Status: 3}, api.OK)
	wantError(t, api.KindAuth, "\x05\x03", api.ErrForm)
	wantDecode(t, api.KindAuth, "\x01\x01\x00\x02\x01", api.Body{Kind: api.BodyAuth, Step: 1, Handle: 258}, api.OK)
}

func TestDecodeOfNothing(t *testing.T) {
	for _, kind := range frameKinds() {
		want := api.ErrForm
		if slices.Contains(carriers, kind) {
			want = api.ErrShort
		}
		wantError(t, kind, "", want)
	}
}

// Every first octet, alone, with the fields of its kind, and with those of other kinds.
func TestDecodeOfEachFirstOctet(t *testing.T) {
	for _, kind := range frameKinds() {
		for octet := range 256 {
			first := string([]byte{byte(octet)})
			fits := slices.Contains(framesOf(octet), kind)
			want := api.ErrForm
			if fits {
				want = api.ErrShort
			}
			wantError(t, kind, first, want)
			for _, b := range samples() {
				rest := octetsOf(b)[1:]
				if !fits {
					wantError(t, kind, first+rest, api.ErrForm)
				}
				valid := tryString(t, kind, first+rest)
				if own := fits && b.Kind == octet; own && !valid {
					t.Fatalf("Decode(%d, %x) finds an error", kind, first+rest)
				}
			}
		}
	}
}

func TestDecodeOfEachBeginning(t *testing.T) {
	for _, b := range samples() {
		s := octetsOf(b)
		for _, kind := range framesOf(b.Kind) {
			for n := range len(s) {
				wantError(t, kind, s[:n], api.ErrShort)
			}
			wantDecode(t, kind, s, b, api.OK)
			for _, more := range []string{"\x00", "\x01", "\xff", "\x05\x03", s, strings.Repeat("\x00", 300)} {
				wantError(t, kind, s+more, api.ErrLong)
			}
		}
	}
}

func TestDecodeOfNames(t *testing.T) {
	for _, x := range []struct {
		kind int
		head string
		tail string
	}{
		{api.KindAssocRequest, "\x02", "\x0a\x03"},
		{api.KindReassocRequest, "\x03", "\x0a\x03\x02\x00\x00\x00\x00\x01"},
	} {
		for n := range 256 {
			length := string([]byte{byte(n)})
			want := api.OK
			switch {
			case n == 0:
				want = api.ErrRange
			case n > 32:
				want = api.ErrLong
			}
			s := x.head + length + named(n) + x.tail
			if b, e := Decode(x.kind, s); e != want || e == api.OK && b.Name != named(n) {
				t.Fatalf("Decode(%d, %x) = %#v, %d, not %d", x.kind, s, b, e, want)
			}
			tryString(t, x.kind, s)
			// Fewer octets than the name has; what follows the name counts as a part of it.
			for have := range n {
				wantError(t, x.kind, x.head+length+named(have), api.ErrShort)
				if have > 0 {
					wantError(t, x.kind, x.head+length+named(n-have)+x.tail, api.ErrShort)
				}
			}
			wantError(t, x.kind, x.head+length+named(n), api.ErrShort)
			wantError(t, x.kind, s+"\x00", api.ErrLong)
		}
		wantError(t, x.kind, x.head, api.ErrShort)
		wantError(t, x.kind, x.head+"\x00", api.ErrShort)
		wantError(t, x.kind, x.head+"\x00"+x.tail[:1], api.ErrShort)
		wantError(t, x.kind, x.head+"\x00"+x.tail, api.ErrRange)
		wantError(t, x.kind, x.head+"\x00"+x.tail+"\x00", api.ErrLong)
	}
}

// outsides are octets of bodies in which one field is out of its range, for each field that can be.
func outsides() []string {
	zero := strings.Repeat("\x00", 4)
	plan := func(first, period, length int) string {
		return little(first, 4) + little(period, 4) + little(length, 4)
	}
	l := []string{
		"\x01\x00\x00\x00\x00", "\x01\x05\x00\x00\x00", "\x01\xff\x00\x02\x01",
		"\x02\x00\x01\x00", "\x02\x01x\x00\x00", "\x02\x01x\x01\x10", "\x02\x01x\x01\xff",
		"\x03\x00\x01\x00" + "\x02\x00\x00\x00\x00\x01", "\x03\x01x\x00\x00" + "\x02\x00\x00\x00\x00\x01", "\x03\x01x\x01\x10" + "\x02\x00\x00\x00\x00\x01",
		"\x03\x01x\x01\x00" + "\x00\x00\x00\x00\x00\x00", "\x03\x01x\x01\x00" + "\x01\x00\x00\x00\x00\x00", "\x03\x01x\x01\x00" + "\xff\xff\xff\xff\xff\xff",
		"\x04\x00\x40", "\x04\x00\xff",
		"\x06\x04\x00\x00\x01", "\x06\x00\x00\x10\x01", "\x06\x00\xff\xff\x01", "\x06\x00\x00\x00\x00", "\x06\x00\x00\x00\x41", "\x06\x00\x00\x00\xff",
		"\x07\x04\x00\x00", "\x07\xff\x00\x00", "\x07\x00\x00\x41", "\x07\x00\x00\xff",
		"\x08\x04\x00", "\x08\xff\x00",
		"\x09\x00\x00", "\x09\x09\x00", "\x09\xff\x00",
		"\x0c" + "\x00\x00\x00\x00\x00\x00" + "\x00", "\x0c" + "\x01\x00\x00\x00\x00\x00" + "\x00", "\x0c" + "\x03\x00\x00\x00\x00\x01" + "\x09", "\x0c" + "\xff\xff\xff\xff\xff\xff" + "\xff",
		"\x0a" + zero + zero + zero, "\x0b" + zero + zero + zero + "\x00",
	}
	for _, p := range []string{
		plan(1<<24+1, 1, 1), plan(1<<25, 1, 1), plan(1<<32-1, 1, 1), plan(0, 0, 1), plan(0, 65536, 1), plan(0, 1<<24+1, 1), plan(0, 1<<32-1, 1),
		plan(0, 10, 0), plan(0, 10, 11), plan(0, 1, 2), plan(0, 65535, 65536), plan(0, 10, 1<<32-1), plan(0, 10, 1<<24+1), plan(5, 0, 0), plan(0, 5, 0), plan(0, 0, 5),
	} {
		l = append(l, "\x0a"+p, "\x0b"+p+"\x00", "\x0b"+p+"\x01", "\x0b"+p+"\xff")
	}
	return l
}

func TestDecodeOfFieldsOutOfRange(t *testing.T) {
	for _, s := range outsides() {
		for _, kind := range framesOf(int(s[0])) {
			wantError(t, kind, s, api.ErrRange)
			tryString(t, kind, s)
		}
	}
}

// The order of the errors: a wrong kind of frame, no octets, a wrong first octet, few octets, many octets, a range, a long name.
func TestDecodeOfTwoErrors(t *testing.T) {
	for _, s := range outsides() {
		for _, kind := range frameKinds() {
			if !slices.Contains(framesOf(int(s[0])), kind) {
				wantError(t, kind, s, api.ErrForm)
				wantError(t, kind, s[:len(s)-1], api.ErrForm)
				wantError(t, kind, s+"\x00", api.ErrForm)
				continue
			}
			for n := range len(s) {
				wantError(t, kind, s[:n], api.ErrShort)
			}
			wantError(t, kind, s+"\x00", api.ErrLong)
			wantError(t, kind, s+s, api.ErrLong)
		}
	}
	long := "\x21" + named(33)
	single := "\x02\x00\x00\x00\x00\x01"
	for _, x := range []struct {
		kind int
		s    string
		e    api.Errno
	}{
		{api.KindAssocRequest, "\x02" + long + "\x01\x00", api.ErrLong},
		{api.KindAssocRequest, "\x02" + long + "\x00\x00", api.ErrRange},
		{api.KindAssocRequest, "\x02" + long + "\x01\x10", api.ErrRange},
		{api.KindAssocRequest, "\x02" + long + "\x01", api.ErrShort},
		{api.KindAssocRequest, "\x02" + long + "\x00\x00\x00", api.ErrLong},
		{api.KindAssocRequest, "\x03" + long + "\x01\x00", api.ErrForm},
		{api.KindReassocRequest, "\x03" + long + "\x01\x00" + single, api.ErrLong},
		{api.KindReassocRequest, "\x03" + long + "\x00\x00" + single, api.ErrRange},
		{api.KindReassocRequest, "\x03" + long + "\x01\x10" + single, api.ErrRange},
		{api.KindReassocRequest, "\x03" + long + "\x01\x00" + "\x00\x00\x00\x00\x00\x00", api.ErrRange},
		{api.KindReassocRequest, "\x03" + long + "\x01\x00" + "\x01\x00\x00\x00\x00\x00", api.ErrRange},
		{api.KindReassocRequest, "\x03" + long + "\x01\x00" + single[:5], api.ErrShort},
		{api.KindReassocRequest, "\x02" + long + "\x01\x00" + single, api.ErrForm},
		{api.KindAuth, "\x05", api.ErrForm},
		{api.KindAuth, "\x00", api.ErrForm},
		{api.KindAction, "\x0d", api.ErrForm},
		{api.KindAction, "\x01\x01\x00\x02\x01", api.ErrForm},
		{api.KindAction, "\x05\x03\x00", api.ErrForm},
		{api.KindBeacon, "\x05\x03", api.ErrForm},
		{api.KindProbeRequest, "", api.ErrForm},
		{api.KindProbeResponse, "\x0d", api.ErrForm},
		{api.KindData, "", api.ErrForm},
	} {
		wantError(t, x.kind, x.s, x.e)
		tryString(t, x.kind, x.s)
	}
}

// Every octet of a body with every value, and every two octets of it with values near limits.
func TestDecodeOfEachOctet(t *testing.T) {
	near := []byte{0, 1, 4, 5, 16, 33, 65, 255}
	for _, b := range samples() {
		s := octetsOf(b)
		for _, kind := range framesOf(b.Kind) {
			for i := range len(s) {
				for octet := range 256 {
					tryString(t, kind, s[:i]+string([]byte{byte(octet)})+s[i+1:])
				}
				// No two octets of a body without a name are further apart.
				for k := max(0, i-14); k < i; k++ {
					for _, first := range near {
						for _, second := range near {
							x := []byte(s)
							x[k], x[i] = first, second
							tryString(t, kind, string(x))
						}
					}
				}
			}
		}
	}
}

// All strings of a first octet and up to three octets near limits.
func TestDecodeOfShortStrings(t *testing.T) {
	near := []string{"\x00", "\x01", "\x02", "\x03", "\x04", "\x08", "\x09", "\x0f", "\x10", "\x3f", "\x40", "\x41", "\xff"}
	rests := []string{""}
	for from, length := 0, 0; length < 3; length++ {
		to := len(rests)
		for _, s := range rests[from:to] {
			for _, x := range near {
				rests = append(rests, s+x)
			}
		}
		from = to
	}
	for first := range bodyKinds + 2 {
		for _, kind := range carriers {
			for _, s := range rests {
				tryString(t, kind, string([]byte{byte(first)})+s)
			}
		}
	}
}

// P15.5

func TestDecodeOfWhatEncodeReturns(t *testing.T) {
	r := rand.New(rand.NewSource(14))
	for range 2000 {
		for kind := 1; kind <= bodyKinds; kind++ {
			b := randomBody(r, kind)
			s, e := Encode(b)
			if e != api.OK {
				t.Fatalf("Encode(%#v) has the error %d", b, e)
			}
			wantDecode(t, Frame(b), s, b, api.OK)
			tryBody(t, b)
		}
	}
}

// No two bodies have the same octets.
func TestOctetsDiffer(t *testing.T) {
	r := rand.New(rand.NewSource(12))
	seen := map[string]api.Body{}
	for range 3000 {
		for kind := 1; kind <= bodyKinds; kind++ {
			b := randomBody(r, kind)
			s, _ := Encode(b)
			if other, twice := seen[s]; twice && other != b {
				t.Fatalf("%#v and %#v have the octets %x", other, b, s)
			}
			seen[s] = b
		}
	}
}

// disturbed returns s with a few changes.
func disturbed(r *rand.Rand, s string) string {
	x := []byte(s)
	for range r.Intn(4) {
		if len(x) == 0 {
			break
		}
		i := r.Intn(len(x))
		switch r.Intn(6) {
		case 0:
			x[i] = byte(r.Intn(256))
		case 1:
			x[i] += byte(r.Intn(5) - 2)
		case 2:
			x[i] = byte(r.Intn(3))
		case 3:
			x = slices.Delete(x, i, i+1)
		case 4:
			x = slices.Insert(x, i, byte(r.Intn(4)))
		}
	}
	return string(x)
}

func TestDecodeOfDisturbedOctets(t *testing.T) {
	r := rand.New(rand.NewSource(6))
	valid, total := 0, 100000
	for range total {
		body := 1 + r.Intn(bodyKinds)
		l := framesOf(body)
		if tryString(t, l[r.Intn(len(l))], disturbed(r, octetsOf(randomBody(r, body)))) {
			valid++
		}
	}
	if valid < total/10 || valid > total*9/10 {
		t.Fatalf("%d of %d strings are valid", valid, total)
	}
}

func TestDecodeOfRandomOctets(t *testing.T) {
	r := rand.New(rand.NewSource(7))
	for range 40000 {
		s := make([]byte, r.Intn(20))
		r.Read(s)
		for i := range s {
			if r.Intn(2) == 0 {
				s[i] = byte(r.Intn(bodyKinds + 2))
			}
		}
		for _, kind := range carriers {
			tryString(t, kind, string(s))
		}
	}
}

// P15.6

func TestDecodeWithEachKindOfFrame(t *testing.T) {
	r := rand.New(rand.NewSource(8))
	l := samples()
	for range 200 {
		for kind := 1; kind <= bodyKinds; kind++ {
			l = append(l, randomBody(r, kind))
		}
	}
	for _, b := range l {
		s := octetsOf(b)
		for _, kind := range frameKinds() {
			if slices.Contains(framesOf(b.Kind), kind) {
				wantDecode(t, kind, s, b, api.OK)
			} else {
				wantError(t, kind, s, api.ErrForm)
			}
		}
	}
}

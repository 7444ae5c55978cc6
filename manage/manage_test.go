package manage

import (
	"math"
	"math/rand"
	"slices"
	"strings"
	"testing"

	"airtime/api"
)

// The limits as the documents state them, so that a changed constant of the program is noticed.
const (
	bodyKinds   = 12
	longestName = 32
	lastSlot    = 1 << 24
	lastPeriod  = 65535
	lastAddress = 1<<48 - 1
	groupBit    = 1 << 40
	lastSingle  = lastAddress - groupBit
)

// row is a row of the chapter's table.
type row struct {
	kind   int
	fields []string
	frames []int
}

// action are the kinds of frames that carry the bodies of actions.
var action = []int{api.KindAction}

// rows are the rows of the chapter's table.
var rows = []row{
	{api.BodyAuth, []string{"Step", "Status", "Handle"}, []int{api.KindAuth}},
	{api.BodyAssoc, []string{"Name", "Listen", "Delivery"}, []int{api.KindAssocRequest}},
	{api.BodyReassoc, []string{"Name", "Listen", "Delivery", "Old"}, []int{api.KindReassocRequest}},
	{api.BodyGrant, []string{"Status", "AID"}, []int{api.KindAssocResponse, api.KindReassocResponse}},
	{api.BodyReason, []string{"Status"}, []int{api.KindDisassoc, api.KindDeauth}},
	{api.BodyOpenRequest, []string{"Cat", "Start", "Size"}, action},
	{api.BodyOpenResponse, []string{"Cat", "Status", "Size"}, action},
	{api.BodyClose, []string{"Cat", "Status"}, action},
	{api.BodySwitch, []string{"Channel", "Count"}, action},
	{api.BodyWakeRequest, []string{"Plan"}, action},
	{api.BodyWakeResponse, []string{"Plan", "Status"}, action},
	{api.BodySteer, []string{"Old", "Count"}, action},
}

// rowOf is the row of a kind, and whether there is one.
func rowOf(kind int) (row, bool) {
	for _, r := range rows {
		if r.kind == kind {
			return r, true
		}
	}
	return row{}, false
}

// uses reports whether a body of this kind uses the field.
func uses(kind int, field string) bool {
	r, _ := rowOf(kind)
	return slices.Contains(r.fields, field)
}

// numeric is a field that is one number.
type numeric struct {
	name      string
	at        func(*api.Body) *int
	size      int
	low, high int
}

// numerics are the fields that are one number, with their ranges in a body of this kind.
func numerics(kind int) []numeric {
	if kind == api.BodyOpenResponse {
		return responseNumerics
	}
	return otherNumerics
}

var responseNumerics, otherNumerics = numericsWith(0), numericsWith(1)

// numericsWith are the numerics with this least Size.
func numericsWith(leastSize int) []numeric {
	return []numeric{
		{"Step", func(b *api.Body) *int { return &b.Step }, 1, 1, 4},
		{"Status", func(b *api.Body) *int { return &b.Status }, 1, 0, 255},
		{"Handle", func(b *api.Body) *int { return &b.Handle }, 2, 0, 65535},
		{"Listen", func(b *api.Body) *int { return &b.Listen }, 1, 1, 255},
		{"Delivery", func(b *api.Body) *int { return &b.Delivery }, 1, 0, 15},
		{"AID", func(b *api.Body) *int { return &b.AID }, 1, 0, 63},
		{"Cat", func(b *api.Body) *int { return &b.Cat }, 1, 0, 3},
		{"Start", func(b *api.Body) *int { return &b.Start }, 2, 0, 4095},
		{"Size", func(b *api.Body) *int { return &b.Size }, 1, leastSize, 64},
		{"Channel", func(b *api.Body) *int { return &b.Channel }, 1, 1, 8},
		{"Count", func(b *api.Body) *int { return &b.Count }, 1, 0, 255},
	}
}

// planParts are the numbers of a plan.
func planParts(b *api.Body) []*int {
	return []*int{&b.Plan.First, &b.Plan.Period, &b.Plan.Length}
}

// usedNumerics are those of the numerics that a kind uses.
func usedNumerics(kind int) []numeric {
	return slices.DeleteFunc(slices.Clone(numerics(kind)), func(n numeric) bool { return !uses(kind, n.name) })
}

// unusedSet reports whether b has a field that its kind does not use and that is not zero.
func unusedSet(b api.Body) bool {
	for _, n := range numerics(b.Kind) {
		if !uses(b.Kind, n.name) && *n.at(&b) != 0 {
			return true
		}
	}
	return !uses(b.Kind, "Name") && b.Name != "" || !uses(b.Kind, "Old") && b.Old != 0 || !uses(b.Kind, "Plan") && b.Plan != api.Plan{}
}

// usedOutside reports whether b has a field that its kind uses and that is out of its range.
func usedOutside(b api.Body) bool {
	for _, n := range numerics(b.Kind) {
		if v := *n.at(&b); uses(b.Kind, n.name) && (v < n.low || v > n.high) {
			return true
		}
	}
	single := b.Old >= 1 && b.Old <= lastAddress && b.Old&groupBit == 0
	plan := b.Plan.First >= 0 && b.Plan.First <= lastSlot && b.Plan.Period >= 1 && b.Plan.Period <= lastPeriod && b.Plan.Length >= 1 && b.Plan.Length <= b.Plan.Period
	if b.Kind == api.BodyWakeResponse && b.Status != 0 && b.Plan == (api.Plan{}) {
		plan = true
	}
	return uses(b.Kind, "Name") && len(b.Name) == 0 || uses(b.Kind, "Old") && !single || uses(b.Kind, "Plan") && !plan
}

// checked is what the chapter says of Check.
func checked(b api.Body) api.Errno {
	_, known := rowOf(b.Kind)
	switch {
	case !known, unusedSet(b):
		return api.ErrForm
	case usedOutside(b):
		return api.ErrRange
	case len(b.Name) > longestName:
		return api.ErrLong
	}
	return api.OK
}

// little are the octets of n, the least significant one first.
func little(n, size int) string {
	s := ""
	for range size {
		s += string([]byte{byte(n)})
		n >>= 8
	}
	return s
}

// fieldOctets are the octets of a field of a body.
func fieldOctets(b api.Body, field string) string {
	switch field {
	case "Name":
		return little(len(b.Name), 1) + b.Name
	case "Old":
		s := []byte(little(int(b.Old), 6))
		slices.Reverse(s)
		return string(s)
	case "Plan":
		return little(b.Plan.First, 4) + little(b.Plan.Period, 4) + little(b.Plan.Length, 4)
	}
	for _, n := range numerics(b.Kind) {
		if n.name == field {
			return little(*n.at(&b), n.size)
		}
	}
	panic("no field " + field)
}

// octetsOf are the octets of a body as the chapter defines them, also for values that are out of range but fit in their octets.
func octetsOf(b api.Body) string {
	s := little(b.Kind, 1)
	r, _ := rowOf(b.Kind)
	for _, f := range r.fields {
		s += fieldOctets(b, f)
	}
	return s
}

// named returns a name of n octets, which are not all the same.
func named(n int) string {
	s := make([]byte, n)
	for i := range s {
		s[i] = byte(37*i + 200)
	}
	return string(s)
}

// bodyWith is the body of a kind whose fields have values of the given body, and that has nothing in the fields that it does not use.
func bodyWith(kind int, all api.Body) api.Body {
	b := api.Body{Kind: kind}
	for _, n := range numerics(kind) {
		if uses(kind, n.name) {
			*n.at(&b) = *n.at(&all)
		}
	}
	if uses(kind, "Name") {
		b.Name = all.Name
	}
	if uses(kind, "Old") {
		b.Old = all.Old
	}
	if uses(kind, "Plan") {
		b.Plan = all.Plan
	}
	return b
}

// least, greatest and middle are the valid bodies of a kind whose numbers are the least ones, the greatest ones, and others.
func least(kind int) api.Body {
	all := api.Body{Name: "\x00", Old: 1, Plan: api.Plan{Period: 1, Length: 1}}
	for _, n := range numerics(kind) {
		*n.at(&all) = n.low
	}
	return bodyWith(kind, all)
}

func greatest(kind int) api.Body {
	all := api.Body{Name: strings.Repeat("\xff", longestName), Old: lastSingle, Plan: api.Plan{First: lastSlot, Period: lastPeriod, Length: lastPeriod}}
	for _, n := range numerics(kind) {
		*n.at(&all) = n.high
	}
	return bodyWith(kind, all)
}

func middle(kind int) api.Body {
	return bodyWith(kind, api.Body{
		Step: 2, Status: 0x91, Handle: 0x1234, Name: named(7), Listen: 0x56, Delivery: 9, Old: 0x123456789abc, AID: 42, Cat: 2,
		Start: 0x0987, Size: 17, Channel: 5, Count: 0xa1, Plan: api.Plan{First: 0x345678, Period: 0xdcba, Length: 0x4321},
	})
}

// samplesOf are valid bodies of a kind, and samples of all kinds.
func samplesOf(kind int) []api.Body {
	l := []api.Body{least(kind), middle(kind), greatest(kind)}
	if kind == api.BodyWakeResponse {
		l = append(l, api.Body{Kind: kind, Status: 1}, api.Body{Kind: kind, Status: 255})
	}
	return l
}

func samples() []api.Body {
	var l []api.Body
	for _, r := range rows {
		l = append(l, samplesOf(r.kind)...)
	}
	return l
}

// anyOf returns one of the ends of a range, or any number of it.
func anyOf(r *rand.Rand, low, high int) int {
	switch r.Intn(6) {
	case 0:
		return low
	case 1:
		return high
	}
	return low + r.Intn(high-low+1)
}

// randomBody returns a valid body of a kind.
func randomBody(r *rand.Rand, kind int) api.Body {
	octets := make([]byte, anyOf(r, 1, longestName))
	r.Read(octets)
	all := api.Body{Name: string(octets), Old: api.Addr(anyOf(r, 1, lastAddress) &^ groupBit)}
	if all.Old == 0 {
		all.Old = 1
	}
	all.Plan = api.Plan{First: anyOf(r, 0, lastSlot), Period: anyOf(r, 1, lastPeriod)}
	all.Plan.Length = anyOf(r, 1, all.Plan.Period)
	for _, n := range numerics(kind) {
		*n.at(&all) = anyOf(r, n.low, n.high)
	}
	b := bodyWith(kind, all)
	if kind == api.BodyWakeResponse && b.Status != 0 && r.Intn(2) == 0 {
		b.Plan = api.Plan{}
	}
	return b
}

// wantCheck checks the result of Check, and that Encode returns the same error.
func wantCheck(t *testing.T, b api.Body, want api.Errno) {
	t.Helper()
	if e := Check(b); e != want {
		t.Fatalf("Check(%#v) = %d, not %d", b, e, want)
	}
	s, e := Encode(b)
	if e != want {
		t.Fatalf("Encode(%#v) has the error %d, not %d", b, e, want)
	}
	if want != api.OK && s != "" {
		t.Fatalf("Encode(%#v) has the error %d, and the octets %x", b, e, s)
	}
}

// tryBody compares all that the chapter says of a body, valid or not, and reports whether it is valid.
func tryBody(t *testing.T, b api.Body) bool {
	t.Helper()
	want := checked(b)
	wantCheck(t, b, want)
	if want != api.OK {
		return false
	}
	wantOctets(t, b, octetsOf(b))
	return true
}

// wantOctets checks that these are the octets of b, in both directions, with each kind of frame of its row.
func wantOctets(t *testing.T, b api.Body, want string) {
	t.Helper()
	if s, e := Encode(b); s != want || e != api.OK {
		t.Fatalf("Encode(%#v) = %x, %d, not %x and OK", b, s, e, want)
	}
	wantDecode(t, Frame(b), want, b, api.OK)
	r, _ := rowOf(b.Kind)
	for _, kind := range r.frames {
		wantDecode(t, kind, want, b, api.OK)
	}
}

// wantDecode checks the result of Decode: the body, or no body together with an error.
func wantDecode(t *testing.T, kind int, s string, want api.Body, wantErr api.Errno) {
	t.Helper()
	if b, e := Decode(kind, s); b != want || e != wantErr {
		t.Fatalf("Decode(%d, %x) = %#v, %d, not %#v and %d", kind, s, b, e, want, wantErr)
	}
}

// wantError checks that Decode returns an error, and no body.
func wantError(t *testing.T, kind int, s string, e api.Errno) {
	t.Helper()
	wantDecode(t, kind, s, api.Body{}, e)
}

// far are ints that no field may have; some are valid numbers modulo 2^8, 2^16 or 2^32.
var far = []int{
	math.MinInt, math.MinInt + 1, math.MinInt + 5, -1<<32 + 1, -1<<32 + 5, math.MinInt32, -1<<24 + 1, -65536 + 1, -65535, -256 + 1, -255, -5, -2, -1,
	1<<24 + 1, 1<<24 + 5, 1<<25 + 1, math.MaxInt32, 1 << 31, 1<<31 + 1, 1 << 32, 1<<32 + 1, 1<<32 + 5, 1<<40 + 1, math.MaxInt - 1, math.MaxInt,
}

// P15.1

func TestCheckOfTheExamples(t *testing.T) {
	wantCheck(t, api.Body{Kind: api.BodyReason, Status: 255}, api.OK)
	wantCheck(t, api.Body{Kind: api.BodyReason, Status: 256}, api.ErrRange)
	wantCheck(t, api.Body{Kind: api.BodyReason, Status: 256, AID: 1}, api.ErrForm)
	wantCheck(t, api.Body{Kind: api.BodyReason, Status: 255, AID: 1}, api.ErrForm)
	wantCheck(t, api.Body{Kind: api.BodyAuth, Step: 1, Handle: 258}, api.OK)
}

func TestCheckOfSamples(t *testing.T) {
	for _, b := range samples() {
		wantCheck(t, b, api.OK)
		tryBody(t, b)
	}
}

func TestCheckOfNoKind(t *testing.T) {
	none := []int{math.MinInt, -1 << 32, -256, -13, -12, -1, 0, 13, 14, 255, 256, 1 << 32, math.MaxInt}
	for kind := 1; kind <= bodyKinds; kind++ {
		none = append(none, -kind, kind+256, kind-256, kind+1<<16, kind+1<<32, kind-1<<32, math.MinInt+kind)
	}
	for _, kind := range none {
		wantCheck(t, api.Body{Kind: kind}, api.ErrForm)
		for _, b := range samples() {
			b.Kind = kind
			wantCheck(t, b, api.ErrForm)
		}
		wantCheck(t, api.Body{Kind: kind, Name: named(33), Status: -1}, api.ErrForm)
	}
}

func TestCheckAtTheLimits(t *testing.T) {
	for _, b := range samples() {
		for _, n := range usedNumerics(b.Kind) {
			try := func(v int, want api.Errno) {
				t.Helper()
				c := b
				*n.at(&c) = v
				// The zero plan needs a Status.
				if c.Plan == (api.Plan{}) && uses(c.Kind, "Plan") && c.Status == 0 {
					want = api.ErrRange
				}
				wantCheck(t, c, want)
				tryBody(t, c)
			}
			for _, v := range far {
				try(v, api.ErrRange)
			}
			try(n.low-1, api.ErrRange)
			for v := n.low; v <= n.high; v++ {
				if v < n.low+300 || v > n.high-300 || v%251 == 0 {
					try(v, api.OK)
				}
			}
			for _, more := range []int{1, 2, 256, 65536} {
				try(n.high+more, api.ErrRange)
			}
		}
	}
}

// setter gives one field, or a part of it, a value.
type setter struct {
	field string
	set   func(*api.Body)
}

// fillings fill a field each, some with values that it may have where it is used, and some with others.
func fillings() []setter {
	var l []setter
	for _, n := range numerics(0) {
		for _, v := range []int{math.MinInt, -256, -1, 1, 2, n.high, n.high + 1, 256, 65536, 1 << 32, math.MaxInt} {
			l = append(l, setter{n.name, func(b *api.Body) { *n.at(b) = v }})
		}
	}
	for _, s := range []string{"\x00", "x", named(longestName), named(longestName + 1), named(256)} {
		l = append(l, setter{"Name", func(b *api.Body) { b.Name = s }})
	}
	for _, a := range []api.Addr{1, lastSingle, groupBit, lastAddress, lastAddress + 1, math.MaxUint64} {
		l = append(l, setter{"Old", func(b *api.Body) { b.Old = a }})
	}
	for i := range 3 {
		for _, v := range []int{math.MinInt, -1, 1, 2, lastPeriod, lastSlot + 1, 1 << 32, math.MaxInt} {
			l = append(l, setter{"Plan", func(b *api.Body) { *planParts(b)[i] = v }})
		}
	}
	return append(l, setter{"Plan", func(b *api.Body) { b.Plan = api.Plan{First: 1, Period: 2, Length: 1} }})
}

// faults put a field that a kind uses out of its range.
func faults(kind int) []setter {
	var l []setter
	for _, n := range usedNumerics(kind) {
		for _, v := range []int{math.MinInt, n.low - 1, n.high + 1, math.MaxInt} {
			l = append(l, setter{n.name, func(b *api.Body) { *n.at(b) = v }})
		}
	}
	if uses(kind, "Name") {
		l = append(l, setter{"Name", func(b *api.Body) { b.Name = "" }})
	}
	if uses(kind, "Old") {
		for _, a := range []api.Addr{0, groupBit, lastAddress, lastAddress + 1, math.MaxUint64} {
			l = append(l, setter{"Old", func(b *api.Body) { b.Old = a }})
		}
	}
	if uses(kind, "Plan") {
		for _, p := range []api.Plan{{First: -1, Period: 1, Length: 1}, {First: lastSlot + 1, Period: 1, Length: 1}, {First: 1}, {Period: 1}, {Length: 1}, {Period: 5, Length: 6}, {Period: lastPeriod + 1, Length: 1}} {
			l = append(l, setter{"Plan", func(b *api.Body) { b.Plan = p }})
		}
	}
	return l
}

func TestCheckOfUnusedFields(t *testing.T) {
	for _, b := range samples() {
		for _, x := range fillings() {
			if uses(b.Kind, x.field) {
				continue
			}
			c := b
			x.set(&c)
			wantCheck(t, c, api.ErrForm)
			for _, fault := range faults(b.Kind) {
				d := c
				fault.set(&d)
				wantCheck(t, d, api.ErrForm)
			}
			if uses(b.Kind, "Name") {
				c.Name = named(longestName + 1)
				wantCheck(t, c, api.ErrForm)
			}
			zero := api.Body{Kind: b.Kind}
			x.set(&zero)
			wantCheck(t, zero, api.ErrForm)
		}
	}
}

func TestCheckOfFaults(t *testing.T) {
	for _, b := range samples() {
		for _, first := range faults(b.Kind) {
			c := b
			first.set(&c)
			wantCheck(t, c, api.ErrRange)
			for _, second := range faults(b.Kind) {
				d := c
				second.set(&d)
				wantCheck(t, d, api.ErrRange)
				tryBody(t, d)
			}
		}
	}
}

func TestCheckOfZeroBodies(t *testing.T) {
	for _, r := range rows {
		want := api.ErrRange
		if r.kind == api.BodyGrant || r.kind == api.BodyReason || r.kind == api.BodyOpenResponse || r.kind == api.BodyClose {
			want = api.OK
		}
		wantCheck(t, api.Body{Kind: r.kind}, want)
	}
}

func TestCheckOfNames(t *testing.T) {
	for _, kind := range []int{api.BodyAssoc, api.BodyReassoc} {
		for _, b := range samplesOf(kind) {
			for n := range 600 {
				want := api.OK
				switch {
				case n == 0:
					want = api.ErrRange
				case n > 32:
					want = api.ErrLong
				}
				for _, s := range []string{named(n), strings.Repeat("\x00", n)} {
					b.Name = s
					wantCheck(t, b, want)
				}
			}
			for _, n := range []int{0, 1, 32, 33, 255, 256, 257, 1 << 16, 1<<16 + 1} {
				b.Name = named(n)
				for _, fault := range faults(kind) {
					if fault.field != "Name" {
						c := b
						fault.set(&c)
						wantCheck(t, c, api.ErrRange)
					}
				}
			}
		}
	}
}

func TestCheckOfOld(t *testing.T) {
	for _, kind := range []int{api.BodyReassoc, api.BodySteer} {
		for _, b := range samplesOf(kind) {
			try := func(a api.Addr, want api.Errno) {
				t.Helper()
				b.Old = a
				wantCheck(t, b, want)
				tryBody(t, b)
			}
			for _, a := range []api.Addr{1, 2, 255, 256, groupBit - 1, 2 * groupBit, 2*groupBit + 1, 0x020000000001, 0x020000000010, lastSingle - 1, lastSingle} {
				try(a, api.OK)
			}
			for _, a := range []api.Addr{0, groupBit, groupBit + 1, 3 * groupBit, lastSingle + 1, lastAddress - 1, lastAddress, lastAddress + 1, lastAddress + 2, 1<<63 + 2, math.MaxUint64 - groupBit, math.MaxUint64} {
				try(a, api.ErrRange)
			}
			for bit := range 64 {
				want := api.OK
				if bit == 40 || bit > 47 {
					want = api.ErrRange
				}
				try(1<<bit, want)
			}
		}
	}
}

func TestCheckOfPlans(t *testing.T) {
	first := []int{math.MinInt, -1 << 32, -1, 0, 1, 1<<24 - 1, 1 << 24, 1<<24 + 1, 1 << 32, math.MaxInt}
	period := []int{math.MinInt, -65535, -1, 0, 1, 2, 100, 255, 256, 65534, 65535, 65536, 1 << 24, 1 << 32, 1<<32 + 1, math.MaxInt}
	for _, kind := range []int{api.BodyWakeRequest, api.BodyWakeResponse} {
		for _, b := range samplesOf(kind) {
			for _, f := range first {
				for _, p := range period {
					for _, length := range append([]int{math.MinInt, -1, 0, 1, 2, p - 1, p, p + 1, math.MaxInt}, period...) {
						b.Plan = api.Plan{First: f, Period: p, Length: length}
						want := api.ErrRange
						if 0 <= f && f <= 1<<24 && 1 <= p && p <= 65535 && 1 <= length && length <= p || b.Plan == (api.Plan{}) && b.Status > 0 {
							want = api.OK
						}
						wantCheck(t, b, want)
					}
				}
			}
		}
	}
}

func TestCheckOfNoPlan(t *testing.T) {
	wantCheck(t, api.Body{Kind: api.BodyWakeRequest}, api.ErrRange)
	for _, status := range []int{math.MinInt, -256, -1, 0, 1, 2, 128, 254, 255, 256, 257, math.MaxInt} {
		want := api.ErrRange
		if 1 <= status && status <= 255 {
			want = api.OK
		}
		wantCheck(t, api.Body{Kind: api.BodyWakeResponse, Status: status}, want)
		if status != 0 {
			wantCheck(t, api.Body{Kind: api.BodyWakeRequest, Status: status}, api.ErrForm)
		}
		// A plan of which only a part is zero is none of the two.
		for i := range 3 {
			b := api.Body{Kind: api.BodyWakeResponse, Status: status}
			*planParts(&b)[i] = 1
			wantCheck(t, b, api.ErrRange)
		}
		b := api.Body{Kind: api.BodyWakeResponse, Status: status, Plan: api.Plan{First: 7, Period: 9, Length: 3}}
		if status == 0 {
			want = api.OK
		}
		wantCheck(t, b, want)
	}
}

func TestCheckOfSizes(t *testing.T) {
	for size := -2; size <= 300; size++ {
		request, response := api.OK, api.OK
		if size < 1 || size > 64 {
			request = api.ErrRange
		}
		if size < 0 || size > 64 {
			response = api.ErrRange
		}
		for status := range 256 {
			wantCheck(t, api.Body{Kind: api.BodyOpenResponse, Cat: status % 4, Status: status, Size: size}, response)
		}
		wantCheck(t, api.Body{Kind: api.BodyOpenRequest, Size: size}, request)
		wantCheck(t, api.Body{Kind: api.BodyOpenRequest, Cat: 3, Start: 4095, Size: size}, request)
	}
}

// Any values in any fields.
func TestCheckOfAnything(t *testing.T) {
	r := rand.New(rand.NewSource(15))
	l := fillings()
	valid, total := 0, 100000
	for range total {
		b := randomBody(r, 1+r.Intn(bodyKinds))
		if r.Intn(8) == 0 {
			b.Kind = r.Intn(bodyKinds+3) - 1
		}
		for range r.Intn(3) {
			l[r.Intn(len(l))].set(&b)
		}
		if tryBody(t, b) {
			valid++
		}
	}
	if valid < total/10 || valid > total*9/10 {
		t.Fatalf("%d of %d bodies are valid", valid, total)
	}
}

// P15.2

func TestEncodeOfTheExample(t *testing.T) {
	wantOctets(t, api.Body{Kind: api.BodyAuth, Step: 1, Status: 0, Handle: 258}, "\x01\x01\x00\x02\x01")
}

func TestEncodeOfEachKind(t *testing.T) {
	name := strings.Repeat("\xff", 32)
	for _, x := range []struct {
		kind                    int
		least, middle, greatest string
	}{
		{api.BodyAuth, "\x01\x01\x00\x00\x00", "\x01\x02\x91\x34\x12", "\x01\x04\xff\xff\xff"},
		{api.BodyAssoc, "\x02\x01\x00\x01\x00", "\x02\x07\xc8\xed\x12\x37\x5c\x81\xa6\x56\x09", "\x02\x20" + name + "\xff\x0f"},
		{api.BodyReassoc, "\x03\x01\x00\x01\x00\x00\x00\x00\x00\x00\x01", "\x03\x07\xc8\xed\x12\x37\x5c\x81\xa6\x56\x09\x12\x34\x56\x78\x9a\xbc", "\x03\x20" + name + "\xff\x0f\xfe\xff\xff\xff\xff\xff"},
		{api.BodyGrant, "\x04\x00\x00", "\x04\x91\x2a", "\x04\xff\x3f"},
		{api.BodyReason, "\x05\x00", "\x05\x91", "\x05\xff"},
		{api.BodyOpenRequest, "\x06\x00\x00\x00\x01", "\x06\x02\x87\x09\x11", "\x06\x03\xff\x0f\x40"},
		{api.BodyOpenResponse, "\x07\x00\x00\x00", "\x07\x02\x91\x11", "\x07\x03\xff\x40"},
		{api.BodyClose, "\x08\x00\x00", "\x08\x02\x91", "\x08\x03\xff"},
		{api.BodySwitch, "\x09\x01\x00", "\x09\x05\xa1", "\x09\x08\xff"},
		{api.BodyWakeRequest, "\x0a\x00\x00\x00\x00\x01\x00\x00\x00\x01\x00\x00\x00", "\x0a\x78\x56\x34\x00\xba\xdc\x00\x00\x21\x43\x00\x00", "\x0a\x00\x00\x00\x01\xff\xff\x00\x00\xff\xff\x00\x00"},
		{api.BodyWakeResponse, "\x0b\x00\x00\x00\x00\x01\x00\x00\x00\x01\x00\x00\x00\x00", "\x0b\x78\x56\x34\x00\xba\xdc\x00\x00\x21\x43\x00\x00\x91", "\x0b\x00\x00\x00\x01\xff\xff\x00\x00\xff\xff\x00\x00\xff"},
		{api.BodySteer, "\x0c\x00\x00\x00\x00\x00\x01\x00", "\x0c\x12\x34\x56\x78\x9a\xbc\xa1", "\x0c\xfe\xff\xff\xff\xff\xff\xff"},
	} {
		wantOctets(t, least(x.kind), x.least)
		wantOctets(t, middle(x.kind), x.middle)
		wantOctets(t, greatest(x.kind), x.greatest)
	}
	wantOctets(t, api.Body{Kind: api.BodyWakeResponse, Status: 7}, "\x0b"+strings.Repeat("\x00", 12)+"\x07")
}

// Each number at its least and its greatest value, while the others have other values.
func TestEncodeOfEachNumber(t *testing.T) {
	for _, b := range samples() {
		for _, n := range usedNumerics(b.Kind) {
			for _, v := range []int{n.low, n.low + 1, n.high - 1, n.high} {
				c := b
				*n.at(&c) = v
				tryBody(t, c)
			}
		}
	}
}

func TestEncodeOfEachName(t *testing.T) {
	for _, kind := range []int{api.BodyAssoc, api.BodyReassoc} {
		for _, b := range samplesOf(kind) {
			for n := 1; n <= longestName; n++ {
				b.Name = named(n)
				wantOctets(t, b, octetsOf(b))
				if s, _ := Encode(b); s[:2+n] != string([]byte{byte(kind), byte(n)})+named(n) {
					t.Fatalf("Encode of a name of %d octets gives %x", n, s)
				}
			}
			for octet := range 256 {
				b.Name = string([]byte{byte(octet), 'x', byte(255 - octet)})
				wantOctets(t, b, octetsOf(b))
			}
		}
	}
}

// P15.4

func TestFrame(t *testing.T) {
	want := []int{0, 4, 5, 7, 6, 9, 11, 11, 11, 11, 11, 11, 11, 0, 0}
	for kind, frame := range want {
		if k := Frame(api.Body{Kind: kind}); k != frame {
			t.Fatalf("Frame of the body kind %d is %d, not %d", kind, k, frame)
		}
	}
	if k := Frame(api.Body{Kind: api.BodyGrant}); k != api.KindAssocResponse {
		t.Fatalf("Frame of the example is %d", k)
	}
	for _, r := range rows {
		// Only Kind matters.
		for _, b := range append(samples(), api.Body{Status: -1, Name: named(100)}) {
			b.Kind = r.kind
			if k := Frame(b); k != r.frames[0] {
				t.Fatalf("Frame(%#v) = %d, not %d", b, k, r.frames[0])
			}
		}
	}
}

func TestFrameOfNoKind(t *testing.T) {
	none := slices.Clone(far)
	for kind := -300; kind <= 300; kind++ {
		if kind < 1 || kind > bodyKinds {
			none = append(none, kind)
		}
	}
	for _, kind := range none {
		for _, b := range append(samples(), api.Body{}) {
			b.Kind = kind
			if k := Frame(b); k != 0 {
				t.Fatalf("Frame(%#v) = %d, not 0", b, k)
			}
		}
	}
}

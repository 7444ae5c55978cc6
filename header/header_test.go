package header

import (
	"math"
	"math/rand"
	"reflect"
	"slices"
	"strings"
	"testing"

	"airtime/address"
	"airtime/api"
)

// The limits as the chapter states them, so that a changed constant of the program is noticed.
const (
	kindCount   = 19
	longestBody = 2048
)

// Addresses of three nodes, and group addresses.
const (
	nodeA api.Addr = 0x020000000001
	nodeB api.Addr = 0x020000000002
	nodeC api.Addr = 0x020000000010
	group api.Addr = 0x0300000000ab
	every api.Addr = 0xffffffffffff
)

// notKinds are ints that are no kinds; some are kinds modulo 2^8, 2^16 or 2^32.
var notKinds = []int{0, -1, -2, -14, -19, 20, 21, 32, 127, 128, 255, 256, 270, 256 + 18, 1 << 16, 1<<16 + 14, 1 << 32, 1<<32 + 1, 1<<32 + 18,
	-1 << 32, -1<<32 + 18, math.MinInt, math.MinInt + 14, math.MaxInt - 1, math.MaxInt}

// row is what the chapter says of a kind; the length is the one with Key 0.
type row struct {
	name                    string
	class, length, response int
}

// chapter are the kinds in their order as the chapter describes them.
var chapter = []row{
	{"beacon", 1, 24, 0},
	{"probe-request", 1, 24, 0},
	{"probe-response", 1, 24, 14},
	{"auth", 1, 24, 14},
	{"assoc-request", 2, 24, 14},
	{"assoc-response", 2, 24, 14},
	{"reassoc-request", 2, 24, 14},
	{"reassoc-response", 2, 24, 14},
	{"disassoc", 2, 24, 14},
	{"deauth", 1, 24, 14},
	{"action", 3, 24, 14},
	{"rts", 1, 16, 13},
	{"cts", 1, 10, 0},
	{"ack", 1, 10, 0},
	{"block-request", 3, 16, 16},
	{"block-ack", 3, 16, 0},
	{"poll", 3, 16, 14},
	{"data", 3, 27, 14},
	{"null", 3, 25, 14},
}

// allFields are the fields in their order.
var allFields = strings.Fields("Retry More Power Stored Last Joined Policy Duration To From Third Seq Frag Cat Key Count Body")

// used has the fields that each kind uses, as the chapter lists them.
var used = func() [kindCount + 1][]string {
	var l [kindCount + 1][]string
	for kind := 1; kind <= 11; kind++ {
		l[kind] = strings.Fields("Retry Power Duration To From Third Seq Body")
	}
	for _, kind := range []int{12, 17} {
		l[kind] = strings.Fields("Duration To From")
	}
	for _, kind := range []int{13, 14} {
		l[kind] = strings.Fields("Duration To")
	}
	for _, kind := range []int{15, 16} {
		l[kind] = strings.Fields("Duration To From Body")
	}
	l[18] = allFields
	l[19] = strings.Fields("Retry Power Stored Last Policy Duration To From Third Seq Cat")
	return l
}()

// uses reports whether the kind uses the field.
func uses(kind int, name string) bool {
	return slices.Contains(used[kind], name)
}

// flagValues are the numbers of the flags.
var flagValues = map[string]int{"Retry": 1, "More": 2, "Power": 4, "Stored": 8, "Last": 16, "Joined": 32}

// greatest are the greatest values of the numbers, all of which begin with 0.
var greatest = map[string]int{"Duration": 32767, "Seq": 4095, "Frag": 15, "Cat": 3, "Policy": 2, "Key": 65535, "Count": 1099511627775}

// places has the index of each field in api.Frame.
var places = func() map[string]int {
	m := map[string]int{}
	for i := range reflect.TypeFor[api.Frame]().NumField() {
		m[reflect.TypeFor[api.Frame]().Field(i).Name] = i
	}
	return m
}()

// field returns the field of f with this name.
func field(f *api.Frame, name string) reflect.Value {
	return reflect.ValueOf(f).Elem().Field(places[name])
}

// put returns f with this value in the field with this name.
func put(f api.Frame, name string, value any) api.Frame {
	v := field(&f, name)
	v.Set(reflect.ValueOf(value).Convert(v.Type()))
	return f
}

// only returns f as a frame of this kind, without the fields that the kind does not use.
func only(f api.Frame, kind int) api.Frame {
	for _, name := range allFields {
		if !uses(kind, name) {
			field(&f, name).SetZero()
		}
	}
	f.Kind = kind
	return f
}

// filledOctets are n octets, which are not all the same.
func filledOctets(n int) string {
	b := make([]byte, n)
	for i := range b {
		b[i] = byte(7*i + 1)
	}
	return string(b)
}

// values are values to put into the field with this name, good ones and bad ones.
func values(name string) []any {
	if _, ok := flagValues[name]; ok {
		return []any{false, true}
	}
	if most, ok := greatest[name]; ok {
		return []any{0, 1, 2, most - 1, most, -1, most + 1, math.MinInt, math.MaxInt, 1<<32 + 1, -1 << 32, 256, 1<<16 + 1, 3, 4, 1<<63 - 1<<40}
	}
	if name == "Body" {
		return []any{"", "\x00", "abc", filledOctets(longestBody), filledOctets(longestBody + 1), filledOctets(3 * longestBody)}
	}
	return []any{nodeA, nodeB, nodeC, group, every, api.Addr(1), api.Addr(1 << 40), api.Addr(0), api.Addr(1 << 48), 1<<48 | nodeA, 1<<48 | group, api.Addr(math.MaxUint64)}
}

// patterns are frames from which valid frames of the kinds come by only.
func patterns() []api.Frame {
	return []api.Frame{
		{To: nodeA, From: nodeB, Third: nodeC},
		{To: nodeA, From: nodeB, Third: nodeC, Retry: true, Power: true, Duration: 300, Seq: 17, Cat: 2, Key: 7, Count: 258, Body: "abc", Stored: true},
		{To: nodeC, From: nodeA, Third: nodeA, More: true, Frag: 3, Duration: 5, Seq: 4095, Cat: 1, Key: 65535, Body: "x", Last: true, Policy: 1},
		{To: nodeC, From: nodeA, Third: every, Joined: true, Duration: 32767, Seq: 1, Key: 1, Count: 1099511627775, Policy: 2, Body: filledOctets(2048)},
		{To: every, From: nodeC, Third: nodeC, Policy: 1, Power: true, Duration: 1, Seq: 2048, Cat: 3, Key: 256},
		{To: group, From: 0xfedcba987654, Third: 0x123456789ab &^ (1 << 40), Policy: 1, More: true, Frag: 15, Last: true},
	}
}

// bases are valid frames of every kind.
func bases() []api.Frame {
	var l []api.Frame
	for kind := 1; kind <= kindCount; kind++ {
		for _, f := range patterns() {
			f = only(f, kind)
			if f.Kind == api.KindNull && f.Policy == api.PolicyBlock {
				f.Policy = api.PolicyNone
			}
			if f.Kind != api.KindData && f.Third == every {
				f.Third = nodeB
			}
			l = append(l, f)
		}
	}
	return l
}

// randomFrames are frames whose fields are drawn from values, so that many of them are valid; they are the same in every run.
func randomFrames(n int) []api.Frame {
	r := rand.New(rand.NewSource(10))
	all := bases()
	var l []api.Frame
	for range n {
		f := all[r.Intn(len(all))]
		if r.Intn(2) == 0 {
			f.Kind = api.KindData
		}
		for range r.Intn(5) {
			name := allFields[r.Intn(len(allFields))]
			v := values(name)
			// The values at the beginning are good ones.
			f = put(f, name, v[r.Intn(1+r.Intn(len(v)))])
		}
		if r.Intn(2) == 0 {
			f.Seq, f.Duration, f.Key, f.Count = r.Intn(4096), r.Intn(32768), r.Intn(65535)+1, r.Intn(1<<40)
		}
		if r.Intn(3) > 0 {
			f = only(f, f.Kind)
		}
		l = append(l, f)
	}
	return l
}

// inRange reports whether the field of f with this name, which the kind of f uses, is in its range.
func inRange(f api.Frame, name string) bool {
	if most, ok := greatest[name]; ok {
		n := field(&f, name).Int()
		return n >= 0 && n <= int64(most)
	}
	switch name {
	case "To":
		return address.Valid(f.To)
	case "From":
		return address.Valid(f.From) && !address.Group(f.From)
	case "Third":
		if !address.Valid(f.Third) {
			return false
		}
		return !address.Group(f.Third) || f.Kind == 18 && !address.Group(f.To)
	}
	return true
}

// errorOf is the result of Check for f as the chapter defines it.
func errorOf(f api.Frame) api.Errno {
	if f.Kind < 1 || f.Kind > kindCount {
		return api.ErrForm
	}
	for _, name := range used[f.Kind] {
		if !inRange(f, name) {
			return api.ErrRange
		}
	}
	if uses(f.Kind, "Body") && len(f.Body) > longestBody {
		return api.ErrLong
	}
	for _, name := range allFields {
		if !uses(f.Kind, name) && !field(&f, name).IsZero() {
			return api.ErrForm
		}
	}
	grouped := address.Group(f.To)
	for _, bad := range []bool{
		f.Policy == 2 && f.Kind == 19,
		f.Count != 0 && f.Key == 0,
		(f.Frag != 0 || f.More) && (f.Joined || f.Policy == 2),
		uses(f.Kind, "Policy") && grouped && f.Policy != 1,
		f.Retry && grouped,
	} {
		if bad {
			return api.ErrForm
		}
	}
	return api.OK
}

// wantCheck checks the result of Check.
func wantCheck(t *testing.T, f api.Frame, want api.Errno) {
	if got := Check(f); got != want {
		f.Body = f.Body[:min(len(f.Body), 8)]
		t.Errorf("Check(%+v) = %d, want %d", f, got, want)
	}
}

// wantOfKinds checks a function of the kinds, which returns what want returns for the row of the kind, and 0 for other
// numbers.
func wantOfKinds(t *testing.T, name string, function func(kind int) int, want func(c row) int) {
	t.Helper()
	for i, c := range chapter {
		if got := function(i + 1); got != want(c) {
			t.Errorf("%s(%d) = %d, want %d", name, i+1, got, want(c))
		}
	}
	for _, kind := range notKinds {
		if got := function(kind); got != 0 {
			t.Errorf("%s(%d) = %d, want 0", name, kind, got)
		}
	}
}

func TestBasesAreValid(t *testing.T) {
	for _, f := range bases() {
		if e := errorOf(f); e != api.OK {
			t.Errorf("%+v is not valid: %d", f, e)
		}
	}
}

// P10.1

func TestCheckExamples(t *testing.T) {
	ack := api.Frame{Kind: api.KindAck, To: address.Node(0)}
	wantCheck(t, ack, api.OK)
	wantCheck(t, put(ack, "Cat", 1), api.ErrForm)
	wantCheck(t, put(ack, "Duration", -1), api.ErrRange)
}

func TestCheckOfKinds(t *testing.T) {
	for _, f := range bases() {
		wantCheck(t, f, api.OK)
	}
	for _, kind := range notKinds {
		wantCheck(t, api.Frame{Kind: kind}, api.ErrForm)
		for _, f := range bases() {
			f.Kind = kind
			wantCheck(t, f, api.ErrForm)
		}
		// A number that is no kind comes before everything else.
		wantCheck(t, api.Frame{Kind: kind, Duration: -1, To: nodeA}, api.ErrForm)
		wantCheck(t, api.Frame{Kind: kind, To: nodeA, Body: filledOctets(longestBody + 1)}, api.ErrForm)
	}
}

// A number that a kind uses is checked against its range, and one that it does not use is 0.
func TestCheckOfNumbers(t *testing.T) {
	for kind := 1; kind <= kindCount; kind++ {
		// With a key, and without fragments, each number is free of the others.
		f := only(api.Frame{To: nodeA, From: nodeB, Third: nodeC, Key: 1}, kind)
		for name, most := range greatest {
			for _, n := range []int{0, 1, most / 2, most - 1, most, most + 1, most + 2, -1, -2, -most, math.MinInt, math.MinInt + most, math.MaxInt,
				math.MaxInt - 1, 1 << 40, 1 << 41, 1<<40 + 1, 1 << 48, 1 << 62, -1 << 40, -1 << 62, -1<<63 + 1<<40} {
				want := api.OK
				switch {
				case !uses(kind, name) && n != 0:
					want = api.ErrForm
				case uses(kind, name) && (n < 0 || n > most):
					want = api.ErrRange
				case name == "Policy" && kind == api.KindNull && n == 2:
					want = api.ErrForm
				}
				wantCheck(t, put(f, name, n), want)
			}
		}
	}
}

func TestCheckOfAddresses(t *testing.T) {
	valid := []api.Addr{nodeA, nodeB, nodeC, 0x020000000000, 1, 0xfe0000000000, 1<<40 - 1, 0xfeffffffffff}
	groups := []api.Addr{group, every, 1 << 40, 0x010000000001, 0x030000000001, 0xff0000000000, every - 1}
	invalid := []api.Addr{0, 1 << 48, 1<<48 | nodeA, 1<<48 | group, 1<<63 | nodeA, math.MaxUint64}
	for kind := 1; kind <= kindCount; kind++ {
		f := only(api.Frame{To: nodeA, From: nodeB, Third: nodeC}, kind)
		toGroup := put(f, "To", every)
		if uses(kind, "Policy") {
			toGroup.Policy = api.PolicyNone
		}
		want := func(f api.Frame, name string, l []api.Addr, e api.Errno) {
			for _, a := range l {
				switch {
				case uses(kind, name):
					wantCheck(t, put(f, name, a), e)
				case a == 0:
					wantCheck(t, put(f, name, a), api.OK)
				default:
					wantCheck(t, put(f, name, a), api.ErrForm)
				}
			}
		}
		want(f, "To", valid, api.OK)
		want(toGroup, "To", groups, api.OK)
		want(toGroup, "To", invalid, api.ErrRange)
		want(f, "From", valid, api.OK)
		want(f, "From", groups, api.ErrRange)
		want(f, "From", invalid, api.ErrRange)
		want(f, "Third", valid, api.OK)
		want(f, "Third", invalid, api.ErrRange)
		want(toGroup, "Third", groups, api.ErrRange)
		if kind == api.KindData {
			want(f, "Third", groups, api.OK)
		} else {
			want(f, "Third", groups, api.ErrRange)
		}
	}
}

func TestCheckOfFlags(t *testing.T) {
	for kind := 1; kind <= kindCount; kind++ {
		f := only(api.Frame{To: nodeA, From: nodeB, Third: nodeC}, kind)
		for name := range flagValues {
			want := api.ErrForm
			if uses(kind, name) {
				want = api.OK
			}
			wantCheck(t, put(f, name, true), want)
		}
	}
}

func TestCheckOfBodies(t *testing.T) {
	for kind := 1; kind <= kindCount; kind++ {
		f := only(api.Frame{To: nodeA, From: nodeB, Third: nodeC}, kind)
		for _, n := range []int{0, 1, 255, 256, 1024, longestBody - 1, longestBody, longestBody + 1, longestBody + 2, 4096, 65536} {
			want := api.OK
			switch {
			case n > longestBody && uses(kind, "Body"):
				want = api.ErrLong
			case n > 0 && !uses(kind, "Body"):
				want = api.ErrForm
			}
			wantCheck(t, put(f, "Body", filledOctets(n)), want)
			wantCheck(t, put(f, "Body", strings.Repeat("\x00", n)), want)
		}
	}
}

// Each part of the fourth error, with what is valid next to it.
func TestCheckOfContradictions(t *testing.T) {
	beacon := api.Frame{Kind: api.KindBeacon, To: nodeA, From: nodeB, Third: nodeB}
	data := api.Frame{Kind: api.KindData, To: nodeA, From: nodeB, Third: nodeC}
	null := api.Frame{Kind: api.KindNull, To: nodeA, From: nodeB, Third: nodeA}
	for _, c := range []struct {
		name string
		f    api.Frame
		set  func(f *api.Frame)
		want api.Errno
	}{
		{"null with a block policy", null, func(f *api.Frame) { f.Policy = 2 }, api.ErrForm},
		{"null with no policy", null, func(f *api.Frame) { f.Policy = 1 }, api.OK},
		{"data with a block policy", data, func(f *api.Frame) { f.Policy = 2 }, api.OK},
		{"a count without a key", data, func(f *api.Frame) { f.Count = 1 }, api.ErrForm},
		{"the greatest count without a key", data, func(f *api.Frame) { f.Count = 1<<40 - 1 }, api.ErrForm},
		{"a count with a key", data, func(f *api.Frame) { f.Count, f.Key = 1, 1 }, api.OK},
		{"a key without a count", data, func(f *api.Frame) { f.Key = 1 }, api.OK},
		{"the greatest key and count", data, func(f *api.Frame) { f.Count, f.Key = 1<<40-1, 65535 }, api.OK},
		{"a fragment that is joined", data, func(f *api.Frame) { f.Frag, f.Joined = 1, true }, api.ErrForm},
		{"a fragment with a block policy", data, func(f *api.Frame) { f.Frag, f.Policy = 15, 2 }, api.ErrForm},
		{"more and joined", data, func(f *api.Frame) { f.More, f.Joined = true, true }, api.ErrForm},
		{"more with a block policy", data, func(f *api.Frame) { f.More, f.Policy = true, 2 }, api.ErrForm},
		{"all of these", data, func(f *api.Frame) { f.Frag, f.More, f.Joined, f.Policy = 1, true, true, 2 }, api.ErrForm},
		{"a fragment with no policy", data, func(f *api.Frame) { f.Frag, f.Policy = 1, 1 }, api.OK},
		{"more with no policy", data, func(f *api.Frame) { f.More, f.Policy = true, 1 }, api.OK},
		{"a fragment and more", data, func(f *api.Frame) { f.Frag, f.More = 1, true }, api.OK},
		{"joined with a block policy", data, func(f *api.Frame) { f.Joined, f.Policy = true, 2 }, api.OK},
		{"data to a group, acknowledged", data, func(f *api.Frame) { f.To = group }, api.ErrForm},
		{"data to a group with a block policy", data, func(f *api.Frame) { f.To, f.Policy = every, 2 }, api.ErrForm},
		{"data to a group with no policy", data, func(f *api.Frame) { f.To, f.Policy = every, 1 }, api.OK},
		{"null to a group, acknowledged", null, func(f *api.Frame) { f.To = every }, api.ErrForm},
		{"null to a group with no policy", null, func(f *api.Frame) { f.To, f.Policy = group, 1 }, api.OK},
		{"a beacon to a group", beacon, func(f *api.Frame) { f.To = every }, api.OK},
		{"a beacon to a group, repeated", beacon, func(f *api.Frame) { f.To, f.Retry = every, true }, api.ErrForm},
		{"a beacon to a node, repeated", beacon, func(f *api.Frame) { f.Retry = true }, api.OK},
		{"data to a group, repeated", data, func(f *api.Frame) { f.To, f.Policy, f.Retry = group, 1, true }, api.ErrForm},
		{"null to a group, repeated", null, func(f *api.Frame) { f.To, f.Policy, f.Retry = group, 1, true }, api.ErrForm},
		{"data for a group, repeated", data, func(f *api.Frame) { f.Third, f.Retry = every, true }, api.OK},
		{"data for a group, acknowledged", data, func(f *api.Frame) { f.Third = group }, api.OK},
		{"a request to send to a group", api.Frame{Kind: api.KindRTS, From: nodeA}, func(f *api.Frame) { f.To = every }, api.OK},
	} {
		f := c.f
		c.set(&f)
		if got := Check(f); got != c.want {
			t.Errorf("%s: %d, want %d", c.name, got, c.want)
		}
	}
}

// Frames with several errors.
func TestCheckOrder(t *testing.T) {
	long := filledOctets(longestBody + 1)
	data := api.Frame{Kind: api.KindData, To: nodeA, From: nodeB, Third: nodeC}
	action := api.Frame{Kind: api.KindAction, To: nodeA, From: nodeB, Third: nodeC}
	poll := api.Frame{Kind: api.KindPoll, To: nodeA, From: nodeB}
	for i, c := range []struct {
		f    api.Frame
		set  func(f *api.Frame)
		want api.Errno
	}{
		{data, func(f *api.Frame) { f.Kind, f.Seq, f.Body = 20, -1, long }, api.ErrForm},
		{data, func(f *api.Frame) { f.Seq, f.Body = 4096, long }, api.ErrRange},
		{data, func(f *api.Frame) { f.Seq, f.Count = 4096, 1 }, api.ErrRange},
		{data, func(f *api.Frame) { f.Count = 1 << 40 }, api.ErrRange},
		{data, func(f *api.Frame) { f.Count = -1 }, api.ErrRange},
		{data, func(f *api.Frame) { f.Key, f.Body, f.Count = -1, long, 5 }, api.ErrRange},
		{data, func(f *api.Frame) { f.Body, f.Count = long, 1 }, api.ErrLong},
		{data, func(f *api.Frame) { f.Body, f.To = long, group }, api.ErrLong},
		{data, func(f *api.Frame) { f.To, f.Third = group, group }, api.ErrRange},
		{data, func(f *api.Frame) { f.To, f.Third, f.Policy = group, group, 1 }, api.ErrRange},
		{data, func(f *api.Frame) { f.From, f.Policy, f.More = group, 2, true }, api.ErrRange},
		{data, func(f *api.Frame) { f.Policy, f.More = 3, true }, api.ErrRange},
		{action, func(f *api.Frame) { f.Third, f.Cat = 0, 1 }, api.ErrRange},
		{action, func(f *api.Frame) { f.Body, f.Cat = long, 1 }, api.ErrLong},
		{action, func(f *api.Frame) { f.Body, f.More = long, true }, api.ErrLong},
		{action, func(f *api.Frame) { f.Body, f.To, f.Retry = long, group, true }, api.ErrLong},
		{action, func(f *api.Frame) { f.Seq, f.Joined = -1, true }, api.ErrRange},
		{action, func(f *api.Frame) { f.Frag = 16 }, api.ErrForm},
		{action, func(f *api.Frame) { f.Frag, f.Duration = 16, 32768 }, api.ErrRange},
		{poll, func(f *api.Frame) { f.Seq, f.Body = 4096, long }, api.ErrForm},
		{poll, func(f *api.Frame) { f.To, f.Body = 0, long }, api.ErrRange},
		{poll, func(f *api.Frame) { f.Third, f.Policy = 1<<48, 3 }, api.ErrForm},
		{poll, func(f *api.Frame) { f.Third, f.From = 1<<48, group }, api.ErrRange},
	} {
		f := c.f
		c.set(&f)
		if got := Check(f); got != c.want {
			t.Errorf("%d: %d, want %d", i, got, c.want)
		}
	}
}

// Each valid frame with one field, and with two fields, changed.
func TestCheckOfChangedFrames(t *testing.T) {
	trials := map[string][]any{}
	for _, name := range allFields {
		trials[name] = values(name)
	}
	for _, base := range bases() {
		for i, first := range allFields {
			for _, v := range trials[first] {
				f := put(base, first, v)
				wantCheck(t, f, errorOf(f))
				for _, second := range allFields[i+1:] {
					for _, v := range trials[second] {
						g := put(f, second, v)
						wantCheck(t, g, errorOf(g))
					}
				}
			}
		}
		if t.Failed() {
			return
		}
	}
}

func TestCheckOfRandomFrames(t *testing.T) {
	valid := 0
	for _, f := range randomFrames(50000) {
		wantCheck(t, f, errorOf(f))
		if errorOf(f) == api.OK {
			valid++
		}
	}
	if valid < 10000 || valid > 40000 {
		t.Errorf("%d of 50000 frames are valid", valid)
	}
}

// P10.2

func TestLength(t *testing.T) {
	if n := Length(api.Frame{Kind: api.KindData, Key: 7}); n != 32 {
		t.Error("a data frame with Key 7:", n)
	}
	for i, c := range chapter {
		for _, key := range []int{0, 1, 7, 255, 256, 65535, 65536, -1, math.MinInt, math.MaxInt, 1 << 16, 1 << 32} {
			want := c.length
			if c.name == "data" && key != 0 {
				want = 32
			}
			if n := Length(api.Frame{Kind: i + 1, Key: key}); n != want {
				t.Errorf("%s with Key %d: %d, want %d", c.name, key, n, want)
			}
		}
	}
	for _, kind := range notKinds {
		for _, key := range []int{0, 7} {
			if n := Length(api.Frame{Kind: kind, Key: key, To: nodeA, Body: "abc"}); n != 0 {
				t.Errorf("number %d with Key %d: %d, want 0", kind, key, n)
			}
		}
	}
}

// The length depends on nothing but Kind and Key, also if the frame is not valid.
func TestLengthOfFrames(t *testing.T) {
	for _, f := range randomFrames(20000) {
		if n, want := Length(f), Length(api.Frame{Kind: f.Kind, Key: f.Key}); n != want {
			t.Errorf("%+v: %d, want %d", f, n, want)
		}
		if errorOf(f) == api.OK && Length(f) != len(octetsOf(f)) {
			t.Errorf("%+v: %d, want %d", f, Length(f), len(octetsOf(f)))
		}
	}
}

// P10.5

func TestClass(t *testing.T) {
	if Class(api.KindData) != 3 {
		t.Error("Class(KindData) =", Class(api.KindData))
	}
	wantOfKinds(t, "Class", Class, func(c row) int { return c.class })
}

// P10.6

func TestName(t *testing.T) {
	if Name(api.KindRTS) != "rts" || ByName("RTS") != 0 {
		t.Error("rts:", Name(api.KindRTS), ByName("RTS"))
	}
	for i, c := range chapter {
		if Name(i+1) != c.name || ByName(c.name) != i+1 {
			t.Errorf("%d: %q, %s: %d", i+1, Name(i+1), c.name, ByName(c.name))
		}
	}
	for _, kind := range notKinds {
		if Name(kind) != "" {
			t.Errorf("Name(%d) = %q", kind, Name(kind))
		}
	}
}

func TestByNameOfOthers(t *testing.T) {
	names := map[string]int{}
	for i, c := range chapter {
		names[c.name] = i + 1
	}
	want := func(name string) {
		t.Helper()
		if ByName(name) != names[name] {
			t.Errorf("ByName(%q) = %d, want %d", name, ByName(name), names[name])
		}
	}
	for _, name := range []string{"", " ", "0", "1", "19", "-", "beacons", "acknowledgement", "management", "kind", "\x00", filledOctets(70000)} {
		want(name)
	}
	for name := range names {
		want(strings.ToUpper(name))
		want(strings.ToUpper(name[:1]) + name[1:])
		want(strings.ReplaceAll(name, "-", ""))
		want(name + name)
		for i := range len(name) + 1 {
			want(name[:i])
			want(name[i:])
			for octet := range 256 {
				other := string([]byte{byte(octet)})
				want(name[:i] + other + name[i:])
				if i < len(name) {
					want(name[:i] + other + name[i+1:])
				}
			}
			if i < len(name) {
				want(name[:i] + name[i+1:])
				want(name[:i] + strings.ToUpper(name[i:i+1]) + name[i+1:])
			}
		}
	}
}

// P10.7

func TestResponse(t *testing.T) {
	if Response(api.KindBeacon) != 0 {
		t.Error("Response(KindBeacon) =", Response(api.KindBeacon))
	}
	wantOfKinds(t, "Response", Response, func(c row) int { return c.response })
}

// P10.8

func TestByNameOfName(t *testing.T) {
	for kind := -1000; kind <= 1000; kind++ {
		want := 0
		if kind >= 1 && kind <= kindCount {
			want = kind
		}
		if ByName(Name(kind)) != want {
			t.Errorf("ByName(Name(%d)) = %d", kind, ByName(Name(kind)))
		}
	}
}

package window

import (
	"slices"
	"strings"
	"testing"

	"airtime/api"
)

// The limits as the documents state them, so that a changed constant of the program is noticed.
const (
	numbers    = 4096
	mostSize   = 64
	mostOctets = 2048
	tryLimit   = 1073741824
	mapBits    = 64
)

// after returns the number that is n steps after seq; n may be negative.
func after(seq, n int) int {
	return ((seq+n)%numbers + numbers) % numbers
}

// isNumber reports whether n is a sequence number.
func isNumber(n int) bool {
	return 0 <= n && n <= 4095
}

// steps are the steps forward from one sequence number to another one.
func steps(from, to int) int {
	if to < from {
		return to + numbers - from
	}
	return to - from
}

// congruent reports whether n is a sequence number or differs from it by a multiple of 4096.
func congruent(n, seq int) bool {
	return (n%numbers+numbers)%numbers == seq
}

// model is a state as the chapter describes it, with one cell for each number from the start up to Next; the cell of
// a packet that was removed is nil.
type model struct {
	next, size int
	request    bool
	cells      []*api.Sent
}

// modelOf returns the model of a state.
func modelOf(s State) *model {
	m := &model{next: s.Next, size: s.Size, request: s.Request}
	if len(s.List) == 0 {
		return m
	}
	l := map[int]api.Sent{}
	for _, p := range s.List {
		l[p.Seq] = p
	}
	for n := s.List[0].Seq; n != s.Next; n = after(n, 1) {
		if p, ok := l[n]; ok {
			m.cells = append(m.cells, &p)
		} else {
			m.cells = append(m.cells, nil)
		}
	}
	return m
}

// state returns the state that m is the model of.
func (m *model) state() State {
	s := State{Next: m.next, Size: m.size, Request: m.request}
	for _, p := range m.cells {
		if p != nil {
			s.List = append(s.List, *p)
		}
	}
	return s
}

// open are the packets that are not Done.
func (m *model) open() []*api.Sent {
	var l []*api.Sent
	for _, p := range m.cells {
		if p != nil && !p.Done {
			l = append(l, p)
		}
	}
	return l
}

// settle moves the start to the first packet that is not Done.
func (m *model) settle() {
	for len(m.cells) > 0 && (m.cells[0] == nil || m.cells[0].Done) {
		m.cells = m.cells[1:]
	}
}

// room is what the chapter says of Room.
func (m *model) room() int {
	switch {
	case m.request:
		return 0
	case m.size == 0:
		return 1 - len(m.cells)
	}
	return m.size - len(m.cells)
}

// put is what the chapter says of Put.
func (m *model) put(id int, data string) outcome {
	if len(data) > mostOctets {
		return outcome{e: 2}
	}
	if m.room() == 0 {
		return outcome{e: 6}
	}
	seq := m.next
	m.cells = append(m.cells, &api.Sent{ID: id, Seq: seq, Data: data})
	m.next = after(seq, 1)
	return outcome{s: m.state(), seq: seq}
}

// acked is what the chapter says of Acked.
func (m *model) acked(start int, bits uint64) outcome {
	var there [numbers]bool
	n := after(start%numbers, 0)
	for range mapBits {
		there[n] = bits%2 == 1
		bits /= 2
		n = after(n, 1)
	}
	var ids []int
	for _, p := range m.open() {
		if there[p.Seq] {
			p.Done = true
			ids = append(ids, p.ID)
		}
	}
	m.settle()
	return outcome{s: m.state(), ids: ids}
}

// missed is what the chapter says of Missed.
func (m *model) missed(seqs []int, limit int) outcome {
	var ids []int
	for _, p := range m.open() {
		there := false
		for _, n := range seqs {
			there = there || congruent(n, p.Seq)
		}
		if !there {
			continue
		}
		if p.Tries < tryLimit {
			p.Tries = p.Tries + 1
		}
		if p.Tries < limit {
			continue
		}
		ids = append(ids, p.ID)
		m.cells[slices.Index(m.cells, p)] = nil
		m.request = m.request || m.size != 0
	}
	m.settle()
	return outcome{s: m.state(), ids: ids}
}

// resize is what the chapter says of Resize.
func (m *model) resize(size int) outcome {
	switch {
	case size < 0 || size > mostSize:
		return outcome{e: 4}
	case len(m.cells) > 0 || m.request:
		return outcome{e: 9}
	}
	return outcome{s: State{Next: m.next, Size: size}}
}

// reset is what the chapter says of Reset.
func (m *model) reset() outcome {
	o := outcome{s: State{Next: m.next}}
	for _, p := range m.open() {
		o.ids = append(o.ids, p.ID)
	}
	return o
}

// due is what the chapter says of Due.
func (m *model) due(most int) []api.Sent {
	var l []api.Sent
	for _, p := range m.open() {
		if len(l) < most {
			l = append(l, *p)
		}
	}
	return l
}

// same reports whether two states are equal; a nil list is like an empty one.
func same(a, b State) bool {
	return a.Next == b.Next && a.Size == b.Size && a.Request == b.Request && slices.Equal(a.List, b.List)
}

// brief returns the state with data that is not longer than needed to tell what it is.
func brief(s State) State {
	s.List = slices.Clone(s.List)
	for i, p := range s.List {
		if len(p.Data) > 20 {
			s.List[i].Data = p.Data[:20] + ".."
		}
	}
	return s
}

// Two packets that no state of these tests has: behind the end of a list, and in place of what is overwritten.
var (
	spare = api.Sent{ID: -6, Seq: -6, Data: "spare"}
	junk  = api.Sent{ID: -7, Seq: -7, Data: "junk"}
)

// roomy returns the state with a list that has room behind its end, and the whole of its memory.
func roomy(s State) (State, []api.Sent) {
	l := append(slices.Clone(s.List), spare, spare, spare)
	s.List = l[:len(s.List)]
	return s, l
}

// spoil overwrites the memory of a list, also behind its end.
func spoil[E any](l []E, x E) {
	l = l[:cap(l)]
	for i := range l {
		l[i] = x
	}
}

// outcome is all that a call returns; what the function does not return is zero.
type outcome struct {
	s   State
	seq int
	e   api.Errno
	ids []int
}

// equal reports whether two outcomes are the same.
func (o outcome) equal(p outcome) bool {
	return same(o.s, p.s) && o.seq == p.seq && o.e == p.e && slices.Equal(o.ids, p.ids)
}

// copied returns the outcome with memory of its own.
func (o outcome) copied() outcome {
	o.s.List, o.ids = slices.Clone(o.s.List), slices.Clone(o.ids)
	return o
}

// call is a call of a function, by its name, that returns a state. The number n is the identifier of Put, the start
// of Acked, the limit of Missed or the size of Resize.
type call struct {
	name string
	n    int
	data string
	bits uint64
	seqs []int
}

// of makes the call.
func (c call) of(s State) outcome {
	var o outcome
	switch c.name {
	case "Put":
		o.s, o.seq, o.e = Put(s, c.n, c.data)
	case "Acked":
		o.s, o.ids = Acked(s, c.n, c.bits)
	case "Missed":
		o.s, o.ids = Missed(s, c.seqs, c.n)
	case "Confirm":
		o.s = Confirm(s)
	case "Resize":
		o.s, o.e = Resize(s, c.n)
	default:
		o.s, o.ids = Reset(s)
	}
	return o
}

// ofModel does with the model what the call does with a state.
func (c call) ofModel(m *model) outcome {
	switch c.name {
	case "Put":
		return m.put(c.n, c.data)
	case "Acked":
		return m.acked(c.n, c.bits)
	case "Missed":
		return m.missed(c.seqs, c.n)
	case "Confirm":
		m.request = false
		return outcome{s: m.state()}
	case "Resize":
		return m.resize(c.n)
	default:
		return m.reset()
	}
}

// brief returns the call with data that is not longer than needed.
func (c call) brief() call {
	if len(c.data) > 20 {
		c.data = c.data[:20] + ".."
	}
	return c
}

// want makes the call and checks what it returns, that it leaves its arguments as they were, and that what it returns
// shares no memory with them. It returns the new state.
func want(t *testing.T, s State, c call, o outcome) State {
	t.Helper()
	given, memory := roomy(s)
	before := slices.Clone(memory)
	seqs := slices.Clone(c.seqs)
	c.seqs = append(slices.Clone(c.seqs), -6, -6)[:len(seqs)]
	got := c.of(given)
	if !got.equal(o) {
		got.s, o.s = brief(got.s), brief(o.s)
		t.Fatalf("%+v of %+v gives %+v, want %+v", c.brief(), brief(s), got, o)
	}
	if !slices.Equal(memory, before) || !slices.Equal(c.seqs, seqs) {
		t.Fatalf("%+v of %+v changes its arguments to %+v and %d", c.brief(), brief(s), memory, c.seqs)
	}
	result := got.copied()
	spoil(given.List, junk)
	spoil(c.seqs, -7)
	if !got.equal(result) {
		t.Fatalf("%+v of %+v returns what changes with its arguments", c.brief(), brief(s))
	}
	copy(memory, before)
	copy(c.seqs, seqs)
	spoil(got.s.List, junk)
	spoil(got.ids, -7)
	if !slices.Equal(memory, before) || !slices.Equal(c.seqs, seqs) {
		t.Fatalf("%+v of %+v returns that with which its arguments change", c.brief(), brief(s))
	}
	return result.s
}

// wantModel is want for what the chapter says of the call. It also checks that the new state is valid, and what the
// chapter says of its start and its room.
func wantModel(t *testing.T, s State, c call) outcome {
	t.Helper()
	m := modelOf(s)
	o := c.ofModel(m)
	n := want(t, s, c, o)
	wantCheck(t, n, api.OK)
	wantStart(t, n)
	wantRoom(t, n, modelOf(n).room())
	return o
}

// wantCheck checks Check, and that it leaves its argument as it was.
func wantCheck(t *testing.T, s State, e api.Errno) {
	t.Helper()
	given, memory := roomy(s)
	before := slices.Clone(memory)
	if got := Check(given); got != e {
		t.Fatalf("Check of %+v gives %d, want %d", brief(s), got, e)
	}
	if !slices.Equal(memory, before) {
		t.Fatalf("Check of %+v changes its argument", brief(s))
	}
}

// wantStart checks what the chapter says of Start.
func wantStart(t *testing.T, s State) {
	t.Helper()
	n := s.Next
	for i := len(s.List) - 1; i >= 0; i-- {
		n = s.List[i].Seq
	}
	if got := Start(s); got != n {
		t.Fatalf("Start of %+v is %d, want %d", brief(s), got, n)
	}
}

// wantRoom checks Room.
func wantRoom(t *testing.T, s State, room int) {
	t.Helper()
	if got := Room(s); got != room {
		t.Fatalf("Room of %+v is %d, want %d", brief(s), got, room)
	}
}

// wantDue checks Due, that it leaves its argument as it was, and that its result shares no memory with it.
func wantDue(t *testing.T, s State, most int, l ...api.Sent) {
	t.Helper()
	given, memory := roomy(s)
	before := slices.Clone(memory)
	got := Due(given, most)
	if !slices.Equal(got, l) {
		t.Fatalf("Due of %+v with %d gives %+v, want %+v", brief(s), most, brief(State{List: got}).List, brief(State{List: l}).List)
	}
	spoil(got, junk)
	if !slices.Equal(memory, before) {
		t.Fatalf("Due of %+v with %d changes its argument, or returns its memory", brief(s), most)
	}
}

// octets returns n octets.
func octets(n int) string {
	return strings.Repeat("x", n)
}

// sent is a short way to write a packet.
func sent(id, seq int) api.Sent {
	return api.Sent{ID: id, Seq: seq}
}

// gone is a packet that is Done.
func gone(id, seq int) api.Sent {
	return api.Sent{ID: id, Seq: seq, Done: true}
}

// tried is a packet with failed tries.
func tried(id, seq, tries int) api.Sent {
	return api.Sent{ID: id, Seq: seq, Tries: tries}
}

// written is a short way to write a state.
func written(next, size int, l ...api.Sent) State {
	return State{Next: next, Size: size, List: l}
}

// asking returns the state with Request set.
func asking(s State) State {
	s.Request = true
	return s
}

// holding returns a state with one number for each letter from its start on: o for a packet that is not Done, d for
// one that is, and a hyphen for one that was removed. The packet at the distance i has the identifier 100+i.
func holding(start, size int, letters string) State {
	s := State{Next: after(start, len(letters)), Size: size}
	for i, c := range letters {
		if c != '-' {
			s.List = append(s.List, api.Sent{ID: 100 + i, Seq: after(start, i), Tries: i % 4, Done: c == 'd', Data: string(rune('0' + i))})
		}
	}
	return s
}

// words returns all words of up to n letters for valid states.
func words(n int) []string {
	all := []string{""}
	l := []string{"o"}
	for range n {
		all = append(all, l...)
		var longer []string
		for _, w := range l {
			longer = append(longer, w+"o", w+"d", w+"-")
		}
		l = longer
	}
	return all
}

// starts are starts at the wrap from 4095 to 0, around 2048, and others.
var starts = []int{0, 1, 100, 2047, 2048, 4033, 4092, 4094, 4095}

// small are the states with windows of up to most numbers, with all words, with and without Request.
func small(most int) []State {
	var l []State
	for _, start := range starts {
		for size := 0; size <= most; size++ {
			for _, w := range words(max(size, 1)) {
				s := holding(start, size, w)
				l = append(l, s, asking(s))
			}
		}
	}
	return l
}

// large are states with windows of 63 and 64 numbers that are empty, partly filled and full.
func large() []State {
	var l []State
	for _, start := range []int{0, 2048, 4033, 4094} {
		for size := 63; size <= mostSize; size++ {
			for _, n := range []int{0, 1, 2, 40, size - 1, size} {
				for _, w := range []string{"oooo", "odod", "oddd", "o---", "ood-", "o-do"} {
					s := holding(start, size, strings.Repeat(w, 16)[:n])
					l = append(l, s, asking(s))
				}
			}
		}
	}
	return l
}

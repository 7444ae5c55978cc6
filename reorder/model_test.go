package reorder

import (
	"slices"
	"strings"
	"testing"

	"airtime/api"
)

// The results and limits as the documents state them, so that a changed constant of the program is noticed.
const (
	old        = 0
	kept       = 1
	moved      = 2
	numbers    = 4096
	mostSize   = 64
	mostOctets = 2048
	// nearest is the least distance at which a number precedes Start.
	nearest = 2048
)

// after returns the number that is n steps after seq; n may be negative.
func after(seq, n int) int {
	return ((seq+n)%numbers + numbers) % numbers
}

// isNumber reports whether n is a sequence number.
func isNumber(n int) bool {
	return 0 <= n && n <= 4095
}

// steps are the steps forward from one sequence number to another one.
func steps(from, to int) int {
	if to < from {
		return to + numbers - from
	}
	return to - from
}

// model is a buffer as the chapter describes it, which goes through the numbers one by one.
type model struct {
	start int
	size  int
	held  map[int]string
}

// modelOf returns the model of a buffer.
func modelOf(r api.Reorder) *model {
	m := &model{start: r.Start, size: r.Size, held: map[int]string{}}
	for _, h := range r.Held {
		m.held[h.Seq] = h.Data
	}
	return m
}

// buffer returns the buffer that m is the model of.
func (m *model) buffer() api.Reorder {
	r := api.Reorder{Start: m.start, Size: m.size}
	for n := range m.size {
		if data, ok := m.held[after(m.start, n)]; ok {
			r.Held = append(r.Held, api.Held{Seq: after(m.start, n), Data: data})
		}
	}
	return r
}

// step makes the next number the start, and returns what is released by that.
func (m *model) step() []string {
	var l []string
	if data, ok := m.held[m.start]; ok {
		l = append(l, data)
		delete(m.held, m.start)
	}
	m.start = after(m.start, 1)
	return l
}

// advance is what the chapter says of a buffer that advances.
func (m *model) advance(start int) []string {
	var l []string
	for m.start != start {
		l = append(l, m.step()...)
	}
	return l
}

// drain is what the chapter says of a buffer that drains.
func (m *model) drain() []string {
	var l []string
	for {
		if _, ok := m.held[m.start]; !ok {
			return l
		}
		l = append(l, m.step()...)
	}
}

// put is what the chapter says of Put.
func (m *model) put(seq int, data string) (int, []string) {
	if !isNumber(seq) || steps(m.start, seq) >= nearest || len(data) > mostOctets {
		return old, nil
	}
	if _, ok := m.held[seq]; ok {
		return old, nil
	}
	result := kept
	var l []string
	if steps(m.start, seq) >= m.size {
		result = moved
		l = m.advance(after(seq, -(m.size - 1)))
	}
	m.held[seq] = data
	return result, append(l, m.drain()...)
}

// move is what the chapter says of Move.
func (m *model) move(start int) []string {
	if !isNumber(start) || steps(m.start, start) >= nearest {
		return nil
	}
	l := m.advance(start)
	return append(l, m.drain()...)
}

// flush is what the chapter says of Flush: all is released, and the last step is the one from the last packet.
func (m *model) flush() []string {
	var l []string
	for len(m.held) > 0 {
		l = append(l, m.step()...)
	}
	return l
}

// same reports whether two buffers are equal; a nil list is like an empty one.
func same(a, b api.Reorder) bool {
	return a.Start == b.Start && a.Size == b.Size && slices.Equal(a.Held, b.Held)
}

// short returns a description of the strings that is not longer than needed.
func short(l []string) []string {
	var m []string
	for _, s := range l {
		if len(s) > 20 {
			s = s[:20] + ".."
		}
		m = append(m, s)
	}
	return m
}

// brief returns the buffer with data that is not longer than needed to tell what it is.
func brief(r api.Reorder) api.Reorder {
	r.Held = slices.Clone(r.Held)
	for i, h := range r.Held {
		r.Held[i].Data = short([]string{h.Data})[0]
	}
	return r
}

// Two packets that no buffer of these tests holds: behind the end of a list, and in place of what is overwritten.
var (
	spare = api.Held{Seq: -6, Data: "spare"}
	junk  = api.Held{Seq: -7, Data: "junk"}
)

// roomy returns the buffer with a list that has room behind its end, and the whole of its memory.
func roomy(r api.Reorder) (api.Reorder, []api.Held) {
	l := append(slices.Clone(r.Held), spare, spare, spare)
	r.Held = l[:len(r.Held)]
	return r, l
}

// spoil overwrites the memory of a list, also behind its end.
func spoil(l []api.Held) {
	l = l[:cap(l)]
	for i := range l {
		l[i] = junk
	}
}

// outcome is all that a call returns; result is 0 if the function has none.
type outcome struct {
	r      api.Reorder
	result int
	l      []string
}

// equal reports whether two outcomes are the same.
func (o outcome) equal(p outcome) bool {
	return same(o.r, p.r) && o.result == p.result && slices.Equal(o.l, p.l)
}

// call is a call of Put, Move or Flush, by its name.
type call struct {
	name string
	seq  int
	data string
}

// of makes the call.
func (c call) of(r api.Reorder) outcome {
	var o outcome
	switch c.name {
	case "Put":
		o.r, o.result, o.l = Put(r, c.seq, c.data)
	case "Move":
		o.r, o.l = Move(r, c.seq)
	default:
		o.r, o.l = Flush(r)
	}
	return o
}

// ofModel does with the model what the call does with a buffer.
func (c call) ofModel(m *model) outcome {
	var o outcome
	switch c.name {
	case "Put":
		o.result, o.l = m.put(c.seq, c.data)
	case "Move":
		o.l = m.move(c.seq)
	default:
		o.l = m.flush()
	}
	o.r = m.buffer()
	return o
}

// want makes the call and checks what it returns, that it leaves its argument as it was, and that the new buffer
// shares no memory with it. It returns the new buffer.
func want(t *testing.T, r api.Reorder, c call, o outcome) api.Reorder {
	t.Helper()
	given, memory := roomy(r)
	before := slices.Clone(memory)
	got := c.of(given)
	if !got.equal(o) {
		t.Fatalf("%s of %+v with %d and %d octets gives %+v, %d and %q, want %+v, %d and %q", c.name, brief(r), c.seq, len(c.data),
			brief(got.r), got.result, short(got.l), brief(o.r), o.result, short(o.l))
	}
	if !slices.Equal(memory, before) {
		t.Fatalf("%s of %+v with %d changes its argument to %+v", c.name, brief(r), c.seq, memory)
	}
	result := got.r
	result.Held = slices.Clone(result.Held)
	spoil(given.Held)
	if !same(got.r, result) {
		t.Fatalf("%s of %+v with %d returns a buffer that changes with its argument", c.name, brief(r), c.seq)
	}
	copy(memory, before)
	spoil(got.r.Held)
	if !slices.Equal(memory, before) {
		t.Fatalf("%s of %+v with %d returns a buffer with which its argument changes", c.name, brief(r), c.seq)
	}
	return result
}

// wantModel is want for what the chapter says of the call. It also checks that the new buffer is valid.
func wantModel(t *testing.T, r api.Reorder, c call) outcome {
	t.Helper()
	o := c.ofModel(modelOf(r))
	n := want(t, r, c, o)
	wantCheck(t, n, api.OK)
	for _, h := range n.Held {
		if h.Seq == n.Start {
			t.Fatalf("%s of %+v with %d leaves %+v, which holds its start", c.name, brief(r), c.seq, brief(n))
		}
	}
	return o
}

// wantPut checks Put with all of its results.
func wantPut(t *testing.T, r api.Reorder, seq int, data string, o outcome) api.Reorder {
	t.Helper()
	return want(t, r, call{name: "Put", seq: seq, data: data}, o)
}

// wantMove checks Move with both of its results.
func wantMove(t *testing.T, r api.Reorder, start int, n api.Reorder, l ...string) {
	t.Helper()
	want(t, r, call{name: "Move", seq: start}, outcome{r: n, l: l})
}

// wantFlush checks Flush with both of its results.
func wantFlush(t *testing.T, r api.Reorder, n api.Reorder, l ...string) {
	t.Helper()
	want(t, r, call{name: "Flush"}, outcome{r: n, l: l})
}

// wantCheck checks Check, and that it leaves its argument as it was.
func wantCheck(t *testing.T, r api.Reorder, e api.Errno) {
	t.Helper()
	given, memory := roomy(r)
	before := slices.Clone(memory)
	if got := Check(given); got != e {
		t.Fatalf("Check of %+v gives %d, want %d", brief(r), got, e)
	}
	if !slices.Equal(memory, before) {
		t.Fatalf("Check of %+v changes its argument", brief(r))
	}
}

// octets returns n octets.
func octets(n int) string {
	return strings.Repeat("x", n)
}

// holding returns a buffer that holds packets at these distances from its start; the data of each one is its distance as a letter.
func holding(start, size int, distances ...int) api.Reorder {
	r := api.Reorder{Start: start, Size: size}
	for _, d := range distances {
		r.Held = append(r.Held, api.Held{Seq: after(start, d), Data: letter(d)})
	}
	return r
}

// letter returns a data of its own for each distance from 0 to 63.
func letter(d int) string {
	return string(rune('0' + d))
}

// full returns a buffer that holds all numbers of its window but its start.
func full(start, size int) api.Reorder {
	var l []int
	for d := 1; d < size; d++ {
		l = append(l, d)
	}
	return holding(start, size, l...)
}

// subsets returns the buffers with this start and size for all sets of held packets.
func subsets(start, size int) []api.Reorder {
	l := []api.Reorder{holding(start, size)}
	for d := 1; d < size; d++ {
		for _, r := range l {
			r.Held = append(slices.Clone(r.Held), api.Held{Seq: after(start, d), Data: letter(d)})
			l = append(l, r)
		}
	}
	return l
}

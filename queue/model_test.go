package queue

import (
	"math/big"
	"slices"
	"strings"
	"testing"

	"airtime/api"
)

// The limits and errors as the documents state them, so that a changed constant of the program is noticed.
const (
	mostItems  = 64
	mostOctets = 1024
	lastSlot   = 16777216
	lastCat    = 3
	broadcast  = 281474976710655
	errLong    = 2
	errRange   = 4
	errFull    = 6
	errTwice   = 8
)

// Addresses of three nodes, and a group address that is not Broadcast.
const (
	nodeA api.Addr = 0x020000000001
	nodeB api.Addr = 0x020000000002
	nodeC api.Addr = 0x020000000003
	group api.Addr = 0x010000000001
)

// isValid reports whether a is a valid address.
func isValid(a api.Addr) bool {
	return 1 <= a && a <= broadcast
}

// isOne reports whether a is a valid address whose first octet is even.
func isOne(a api.Addr) bool {
	first := a / 256 / 256 / 256 / 256 / 256
	return isValid(a) && first%2 == 0
}

// inSlots reports whether n is from 0 to MaxSlot.
func inSlots(n int) bool {
	return 0 <= n && n <= lastSlot
}

// faultOf is what the chapter says of one item behind others.
func faultOf(x api.Item, before []api.Item) api.Errno {
	inRange := x.ID >= 1 && 0 <= x.Cat && x.Cat <= lastCat && isValid(x.To) && isOne(x.From) && inSlots(x.Born) && inSlots(x.Life)
	if !inRange {
		return errRange
	}
	if len(x.Data) > mostOctets {
		return errLong
	}
	for _, y := range before {
		if y.ID == x.ID {
			return errTwice
		}
	}
	return 0
}

// checkOf is what the chapter says of Check.
func checkOf(l []api.Item) api.Errno {
	if len(l) > mostItems {
		return errFull
	}
	for i := range l {
		if e := faultOf(l[i], l[:i]); e != 0 {
			return e
		}
	}
	return 0
}

// pushOf is what the chapter says of Push.
func pushOf(l []api.Item, x api.Item, most int) outcome {
	if e := faultOf(x, l); e != 0 {
		return outcome{e: e}
	}
	if len(l) >= most || len(l) >= mostItems {
		return outcome{e: errFull}
	}
	return outcome{l: join(l, x)}
}

// popOf is what the chapter says of Pop.
func popOf(l []api.Item, to api.Addr) outcome {
	for i := range l {
		if l[i].To == to {
			return outcome{x: l[i], l: join(l[:i], l[i+1:]...), ok: true}
		}
	}
	return outcome{l: join(l)}
}

// expireOf is what the chapter says of Expire.
func expireOf(l []api.Item, now int) outcome {
	var o outcome
	for _, x := range l {
		age := new(big.Int).Sub(big.NewInt(int64(now)), big.NewInt(int64(x.Born)))
		if x.Life > 0 && age.Cmp(big.NewInt(int64(x.Life))) >= 0 {
			o.gone = append(o.gone, x)
		} else {
			o.l = append(o.l, x)
		}
	}
	return o
}

// purgeOf is what the chapter says of Purge.
func purgeOf(l []api.Item, to api.Addr) outcome {
	var o outcome
	for _, x := range l {
		if x.To == to {
			o.gone = append(o.gone, x)
		} else {
			o.l = append(o.l, x)
		}
	}
	return o
}

// join returns a list of its own of items and further ones.
func join(l []api.Item, more ...api.Item) []api.Item {
	n := make([]api.Item, 0, len(l)+len(more))
	for _, x := range l {
		n = append(n, x)
	}
	for _, x := range more {
		n = append(n, x)
	}
	return n
}

// outcome is all that a call returns; what the function does not return is zero. l is the list that goes on.
type outcome struct {
	x    api.Item
	l    []api.Item
	gone []api.Item
	ok   bool
	e    api.Errno
}

// equal reports whether two outcomes are the same; a nil list is like an empty one.
func (o outcome) equal(p outcome) bool {
	return o.x == p.x && slices.Equal(o.l, p.l) && slices.Equal(o.gone, p.gone) && o.ok == p.ok && o.e == p.e
}

// copied returns the outcome with memory of its own.
func (o outcome) copied() outcome {
	o.l, o.gone = slices.Clone(o.l), slices.Clone(o.gone)
	return o
}

// brief returns the outcome with data that is not longer than needed to tell what it is.
func (o outcome) brief() outcome {
	o.x, o.l, o.gone = short(o.x), brief(o.l), brief(o.gone)
	return o
}

// short returns an item with data that is not longer than needed.
func short(x api.Item) api.Item {
	if len(x.Data) > 20 {
		x.Data = x.Data[:20] + ".."
	}
	return x
}

// brief returns the first items of a list with data that is not longer than needed.
func brief(l []api.Item) []api.Item {
	l = slices.Clone(l[:min(len(l), 8)])
	for i, x := range l {
		l[i] = short(x)
	}
	return l
}

// call is a call of Push, Pop, Expire or Purge. The number n is the most of Push, or the now of Expire.
type call struct {
	name string
	x    api.Item
	n    int
	to   api.Addr
}

// of makes the call.
func (c call) of(l []api.Item) outcome {
	var o outcome
	switch c.name {
	case "Push":
		o.l, o.e = Push(l, c.x, c.n)
	case "Pop":
		o.x, o.l, o.ok = Pop(l, c.to)
	case "Expire":
		o.l, o.gone = Expire(l, c.n)
	default:
		o.l, o.gone = Purge(l, c.to)
	}
	return o
}

// ofModel returns what the chapter says of the call.
func (c call) ofModel(l []api.Item) outcome {
	switch c.name {
	case "Push":
		return pushOf(l, c.x, c.n)
	case "Pop":
		return popOf(l, c.to)
	case "Expire":
		return expireOf(l, c.n)
	default:
		return purgeOf(l, c.to)
	}
}

// brief returns the call with data that is not longer than needed.
func (c call) brief() call {
	c.x = short(c.x)
	return c
}

// pushing is a call of Push.
func pushing(x api.Item, most int) call {
	return call{name: "Push", x: x, n: most}
}

// popping is a call of Pop.
func popping(to api.Addr) call {
	return call{name: "Pop", to: to}
}

// expiring is a call of Expire.
func expiring(now int) call {
	return call{name: "Expire", n: now}
}

// purging is a call of Purge.
func purging(to api.Addr) call {
	return call{name: "Purge", to: to}
}

// Items that no list of these tests has: behind the end of a list, and in place of what is overwritten.
var (
	spare = api.Item{ID: -6, Data: "spare"}
	junk  = api.Item{ID: -7, Data: "junk"}
)

// roomy returns the list with room behind its end, and the whole of its memory; a nil list stays nil.
func roomy(l []api.Item) (given, memory []api.Item) {
	if l == nil {
		return nil, nil
	}
	memory = append(slices.Clone(l), spare, spare, spare)
	return memory[:len(l)], memory
}

// spoil overwrites the memory of a list, also behind its end.
func spoil(l []api.Item) {
	l = l[:cap(l)]
	for i := range l {
		l[i] = junk
	}
}

// want makes the call and checks what it returns, that it leaves the list as it was, and that neither that list nor
// the other one of the result shares memory with what it returns. It returns the new list.
func want(t *testing.T, l []api.Item, c call, o outcome) []api.Item {
	t.Helper()
	given, memory := roomy(l)
	before := slices.Clone(memory)
	got := c.of(given)
	if !got.equal(o) {
		t.Fatalf("%+v of the %d items %+v.. gives %+v, want %+v", c.brief(), len(l), brief(l), got.brief(), o.brief())
	}
	if !slices.Equal(memory, before) {
		t.Fatalf("%+v of %+v changes it to %+v", c.brief(), brief(l), brief(memory))
	}
	spoil(given)
	if !got.equal(o) {
		t.Fatalf("%+v of %+v returns what changes with the list that came in", c.brief(), brief(l))
	}
	copy(memory, before)
	result := got.copied()
	spoil(got.l)
	if !slices.Equal(got.gone, result.gone) || !slices.Equal(memory, before) {
		t.Fatalf("%+v of %+v returns a list with which others change", c.brief(), brief(l))
	}
	copy(got.l, result.l)
	spoil(got.gone)
	if !slices.Equal(got.l, result.l) || !slices.Equal(memory, before) {
		t.Fatalf("%+v of %+v returns gone items with which others change", c.brief(), brief(l))
	}
	return result.l
}

// wantModel is want for what the chapter says of the call.
func wantModel(t *testing.T, l []api.Item, c call) []api.Item {
	t.Helper()
	return want(t, l, c, c.ofModel(l))
}

// wantCheck checks Check, and that it leaves the list as it was.
func wantCheck(t *testing.T, l []api.Item, e api.Errno) {
	t.Helper()
	given, memory := roomy(l)
	before := slices.Clone(memory)
	if got := Check(given); got != e {
		t.Fatalf("Check of the %d items %+v.. gives %d, want %d", len(l), brief(l), got, e)
	}
	if !slices.Equal(memory, before) {
		t.Fatalf("Check of %+v changes it", brief(l))
	}
}

// wantCount checks Count, and that it leaves the list as it was.
func wantCount(t *testing.T, l []api.Item, to api.Addr, n int) {
	t.Helper()
	given, memory := roomy(l)
	before := slices.Clone(memory)
	if got := Count(given, to); got != n {
		t.Fatalf("Count of %d in the %d items %+v.. is %d, want %d", to, len(l), brief(l), got, n)
	}
	if !slices.Equal(memory, before) {
		t.Fatalf("Count of %+v changes it", brief(l))
	}
}

// wantHead checks Head with a skip that is true for some addresses: what it returns, for which addresses it calls
// skip, and that it leaves the list as it was.
func wantHead(t *testing.T, l []api.Item, skipped []api.Addr, x api.Item, ok bool, asked []api.Addr) {
	t.Helper()
	given, memory := roomy(l)
	before := slices.Clone(memory)
	var calls []api.Addr
	got, found := Head(given, func(to api.Addr) bool {
		calls = append(calls, to)
		return slices.Contains(skipped, to)
	})
	if got != x || found != ok {
		t.Fatalf("Head of %+v without %d gives %+v, %v, want %+v, %v", brief(l), skipped, short(got), found, short(x), ok)
	}
	if !slices.Equal(calls, asked) {
		t.Fatalf("Head of %+v without %d calls skip for %d, want %d", brief(l), skipped, calls, asked)
	}
	if !slices.Equal(memory, before) {
		t.Fatalf("Head of %+v changes it", brief(l))
	}
}

// wantHeadModel is wantHead for what the chapter says of Head. It also checks Head without a skip.
func wantHeadModel(t *testing.T, l []api.Item, skipped ...api.Addr) {
	t.Helper()
	var first api.Item
	var asked []api.Addr
	found := false
	for i := 0; i < len(l) && !found; i++ {
		asked = append(asked, l[i].To)
		if !slices.Contains(skipped, l[i].To) {
			first, found = l[i], true
		}
	}
	wantHead(t, l, skipped, first, found, asked)
	wantNilHead(t, l)
}

// wantNilHead checks Head without a skip.
func wantNilHead(t *testing.T, l []api.Item) {
	t.Helper()
	var first api.Item
	for i := len(l) - 1; i >= 0; i-- {
		first = l[i]
	}
	if x, ok := Head(l, nil); x != first || ok != (len(l) > 0) {
		t.Fatalf("Head of %+v with nil gives %+v, %v", brief(l), short(x), ok)
	}
}

// wantAddress checks all functions that have an address as their argument.
func wantAddress(t *testing.T, l []api.Item, to api.Addr) {
	t.Helper()
	wantModel(t, l, popping(to))
	wantModel(t, l, purging(to))
	wantCount(t, l, to, len(purgeOf(l, to).gone))
	wantHeadModel(t, l, to)
}

// octets returns n octets.
func octets(n int) string {
	return strings.Repeat("x", n)
}

// item is a short way to write a valid item.
func item(id int, to api.Addr) api.Item {
	return api.Item{ID: id, To: to, From: nodeA}
}

// living is a short way to write an item with a life.
func living(id, born, life int) api.Item {
	return api.Item{ID: id, To: nodeA, From: nodeB, Born: born, Life: life}
}

// full is an item with a value in every field.
func full(id int, to api.Addr) api.Item {
	return api.Item{ID: id, Cat: id % 4, To: to, From: nodeC, Data: "data " + string(rune('A'+id%26)), Born: 10 * id, Life: 5 * (id % 3)}
}

// queueOf returns a valid queue of n items with the identifiers from 1 on, for three nodes in turn.
func queueOf(n int) []api.Item {
	l := []api.Item{}
	for i := range n {
		l = append(l, full(i+1, []api.Addr{nodeA, nodeB, nodeC}[i%3]))
	}
	return l
}

// ids returns the identifiers of the items of a list.
func ids(l []api.Item) []int {
	var n []int
	for _, x := range l {
		n = append(n, x.ID)
	}
	return n
}

package fragment

import (
	"math"
	"math/rand"
	"strings"
	"testing"

	"airtime/api"
)

// addition is a result of Add.
type addition struct {
	state  api.Partial
	result int
	data   string
}

// added is what the chapter's rules say of Add, one after the other.
func added(p api.Partial, x api.Part) addition {
	refused := addition{state: p, result: 2}
	if x.Seq < 0 || x.Seq > 4095 {
		return refused
	}
	if x.Frag < 0 || x.Frag > 15 {
		return refused
	}
	if x.Frag == 15 && x.More {
		return refused
	}
	if len(x.Data) > 2048 {
		return refused
	}
	if x.Frag == 0 {
		if !x.More {
			return addition{result: 1, data: x.Data}
		}
		return addition{state: api.Partial{Busy: true, Seq: x.Seq, Next: 1, Data: x.Data}}
	}
	if p.Busy && p.Seq == x.Seq && p.Next == x.Frag && len(p.Data)+len(x.Data) <= 2048 {
		if !x.More {
			return addition{result: 1, data: p.Data + x.Data}
		}
		p.Next++
		p.Data += x.Data
		return addition{state: p}
	}
	return refused
}

// short describes a string, of which there may be 2048 octets and more.
func short(s string) string {
	if len(s) > 20 {
		return s[:20] + "..."
	}
	return s
}

// wantAdd checks all results of Add, and returns the new state.
func wantAdd(t *testing.T, p api.Partial, x api.Part, want addition) api.Partial {
	t.Helper()
	q, n, data := Add(p, x)
	if q == want.state && n == want.result && data == want.data {
		return q
	}
	t.Errorf("Add to Busy %t, Seq %d, Next %d, %d octets %q", p.Busy, p.Seq, p.Next, len(p.Data), short(p.Data))
	t.Errorf("of Seq %d, Frag %d, More %t, Retry %t, %d octets %q", x.Seq, x.Frag, x.More, x.Retry, len(x.Data), short(x.Data))
	t.Errorf("gives %d, Busy %t, Seq %d, Next %d, %d octets %q and the packet of %d octets %q", n, q.Busy, q.Seq, q.Next, len(q.Data), short(q.Data), len(data), short(data))
	w := want.state
	t.Fatalf("want %d, Busy %t, Seq %d, Next %d, %d octets %q and the packet of %d octets %q", want.result, w.Busy, w.Seq, w.Next, len(w.Data), short(w.Data), len(want.data), short(want.data))
	return q
}

// wantHold checks that Add gives Hold and this state, with Retry and without.
func wantHold(t *testing.T, p api.Partial, x api.Part, state api.Partial) {
	t.Helper()
	for _, x.Retry = range []bool{false, true} {
		wantAdd(t, p, x, addition{state: state, result: Hold})
	}
}

// wantWhole checks that Add gives Whole, the zero state and this packet, with Retry and without.
func wantWhole(t *testing.T, p api.Partial, x api.Part, data string) {
	t.Helper()
	for _, x.Retry = range []bool{false, true} {
		wantAdd(t, p, x, addition{result: Whole, data: data})
	}
}

// wantRefuse checks that Add gives Refuse and the state as it was, with Retry and without.
func wantRefuse(t *testing.T, p api.Partial, x api.Part) {
	t.Helper()
	for _, x.Retry = range []bool{false, true} {
		wantAdd(t, p, x, addition{state: p, result: Refuse})
	}
}

// states are states of every sort: those that calls give, and others.
func states() []api.Partial {
	l := []api.Partial{{}}
	for _, seq := range []int{-1, 0, 1, 7, 4095, 4096, math.MinInt, math.MaxInt} {
		for _, next := range []int{-1, 0, 1, 2, 7, 14, 15, 16, 17, math.MinInt, math.MaxInt} {
			for _, n := range []int{0, 1, 2, 1024, 2047, 2048, 2049, 5000} {
				data := filled(n)
				l = append(l, api.Partial{Busy: true, Seq: seq, Next: next, Data: data}, api.Partial{Seq: seq, Next: next, Data: data})
			}
		}
	}
	return l
}

// parts are parts of every sort, whether they can be parts of a packet or not.
func parts() []api.Part {
	var l []api.Part
	for _, seq := range []int{-1, 0, 1, 7, 8, 4095, 4096, math.MinInt, math.MaxInt} {
		for _, frag := range []int{-1, 0, 1, 2, 7, 14, 15, 16, math.MinInt, math.MaxInt} {
			for _, n := range []int{0, 1, 1024, 1025, 2047, 2048, 2049} {
				data := filled(n + 1)[1:]
				for i := range 4 {
					l = append(l, api.Part{Seq: seq, Frag: frag, More: i%2 == 1, Retry: i > 1, Data: data})
				}
			}
		}
	}
	return l
}

// P18.3

func TestResultsOfAdd(t *testing.T) {
	if Hold != 0 || Whole != 1 || Refuse != 2 {
		t.Errorf("Hold, Whole and Refuse are %d, %d and %d, want 0, 1 and 2", Hold, Whole, Refuse)
	}
}

func TestAddOfTheExample(t *testing.T) {
	p := api.Partial{Busy: true, Seq: 7, Next: 1, Data: "ab"}
	wantHold(t, api.Partial{}, api.Part{Seq: 7, More: true, Data: "ab"}, p)
	wantRefuse(t, p, api.Part{Seq: 7, Frag: 2, Data: "c"})
	wantRefuse(t, p, api.Part{Seq: 8, Frag: 1, Data: "c"})
	wantWhole(t, p, api.Part{Seq: 7, Frag: 1, Data: "c"}, "abc")
}

// waiting are states that wait for exactly this part, whether it can be one or not.
func waiting(x api.Part) []api.Partial {
	var l []api.Partial
	for _, data := range []string{"", "ab", filled(2047)} {
		l = append(l, api.Partial{Busy: true, Seq: x.Seq, Next: x.Frag, Data: data})
	}
	return l
}

// Rule 1 comes before rule 2, which would take those with Frag 0, and before rule 3, for which the states wait for the part.
func TestAddOfPartsThatCannotBe(t *testing.T) {
	for _, x := range []api.Part{
		{Seq: -1}, {Seq: 4096}, {Seq: math.MinInt}, {Seq: math.MaxInt}, {Seq: 4096 + 7}, {Seq: 7 - 4096},
		{Seq: -1, Frag: 1}, {Seq: 4096, Frag: 1}, {Seq: math.MinInt, Frag: 14}, {Seq: math.MaxInt, Frag: 14},
		{Seq: 7, Frag: -1}, {Seq: 7, Frag: 16}, {Seq: 7, Frag: 17}, {Seq: 7, Frag: math.MinInt}, {Seq: 7, Frag: math.MaxInt},
		{Seq: 7, Data: filled(2049)}, {Seq: 7, Data: filled(2050)}, {Seq: 7, Data: filled(100000)}, {Seq: 7, Frag: 1, Data: filled(2049)},
		{Seq: 4096, Frag: 16, Data: filled(2049)}, {Seq: -1, Data: filled(2049)}, {Seq: -1, Frag: -1, Data: filled(2049)},
	} {
		for _, p := range append(waiting(x), api.Partial{}, api.Partial{Busy: true, Seq: 3, Next: 2, Data: "ab"}, api.Partial{Seq: 3, Next: 2, Data: "ab"}) {
			for _, x.More = range []bool{false, true} {
				wantRefuse(t, p, x)
			}
		}
	}
}

// Without More, these parts are accepted by the states that wait for them.
func TestAddOfALastPartWithMore(t *testing.T) {
	for _, x := range []api.Part{{Seq: 0, Frag: 15}, {Seq: 7, Frag: 15, Data: "c"}, {Seq: 4095, Frag: 15}} {
		for _, p := range waiting(x) {
			x.More = false
			wantWhole(t, p, x, p.Data+x.Data)
			x.More = true
			wantRefuse(t, p, x)
			wantRefuse(t, api.Partial{}, x)
		}
	}
}

func TestAddOfFirstParts(t *testing.T) {
	for _, p := range states() {
		for _, seq := range []int{0, 7, 4095} {
			for _, n := range []int{0, 1, 2047, 2048} {
				x := api.Part{Seq: seq, Data: filled(n)}
				wantWhole(t, p, x, x.Data)
				x.More = true
				wantHold(t, p, x, api.Partial{Busy: true, Seq: seq, Next: 1, Data: x.Data})
			}
		}
	}
}

// The state waits for the part with Frag 0, which begins a packet nevertheless: rule 2 comes before rule 3.
func TestAddOfAFirstPartThatContinues(t *testing.T) {
	p := api.Partial{Busy: true, Seq: 7, Data: "ab"}
	wantWhole(t, p, api.Part{Seq: 7, Data: "c"}, "c")
	wantHold(t, p, api.Part{Seq: 7, More: true, Data: "c"}, api.Partial{Busy: true, Seq: 7, Next: 1, Data: "c"})
	p.Data = filled(2048)
	wantWhole(t, p, api.Part{Seq: 7, Data: "c"}, "c")
}

func TestAddOfNextParts(t *testing.T) {
	for _, seq := range []int{0, 1, 7, 4094, 4095} {
		for frag := 1; frag <= 15; frag++ {
			p := api.Partial{Busy: true, Seq: seq, Next: frag, Data: "ab"}
			for _, data := range []string{"", "c", "cd"} {
				x := api.Part{Seq: seq, Frag: frag, Data: data}
				wantWhole(t, p, x, "ab"+data)
				x.More = true
				if frag == 15 {
					wantRefuse(t, p, x)
					continue
				}
				wantHold(t, p, x, api.Partial{Busy: true, Seq: seq, Next: frag + 1, Data: "ab" + data})
			}
		}
	}
}

func TestAddUpToTheLongestBody(t *testing.T) {
	for _, n := range []int{0, 1, 2, 1000, 1024, 2046, 2047, 2048} {
		p := api.Partial{Busy: true, Seq: 7, Next: 3, Data: filled(n)}
		for k := max(0, mostOctets-n-2); k <= mostOctets-n; k++ {
			x := api.Part{Seq: 7, Frag: 3, Data: filled(k)}
			wantWhole(t, p, x, p.Data+x.Data)
			x.More = true
			wantHold(t, p, x, api.Partial{Busy: true, Seq: 7, Next: 4, Data: p.Data + x.Data})
		}
		for k := mostOctets - n + 1; k <= min(mostOctets, mostOctets-n+3); k++ {
			wantRefuse(t, p, api.Part{Seq: 7, Frag: 3, Data: filled(k)})
			wantRefuse(t, p, api.Part{Seq: 7, Frag: 3, More: true, Data: filled(k)})
		}
	}
}

func TestAddOfPartsThatDoNotFit(t *testing.T) {
	p := api.Partial{Busy: true, Seq: 7, Next: 3, Data: "ab"}
	for seq := range numbers {
		for _, frag := range []int{1, 2, 3, 4, 15} {
			if seq == 7 && frag == 3 {
				continue
			}
			wantRefuse(t, p, api.Part{Seq: seq, Frag: frag, Data: "c"})
			wantRefuse(t, p, api.Part{Seq: seq, Frag: frag, More: frag < 15, Data: "c"})
		}
	}
	for frag := 1; frag <= 15; frag++ {
		wantRefuse(t, api.Partial{}, api.Part{Frag: frag, Data: "c"})
		wantRefuse(t, api.Partial{Seq: 7, Next: frag, Data: "ab"}, api.Part{Seq: 7, Frag: frag, Data: "c"})
		wantRefuse(t, api.Partial{Seq: 7, Next: frag, Data: "ab"}, api.Part{Seq: 7, Frag: frag, More: frag < 15, Data: "c"})
	}
}

// States that no sequence of calls gives are taken as they stand.
func TestAddToOtherStates(t *testing.T) {
	x := api.Part{Seq: 7, Frag: 1, Data: "c"}
	wantRefuse(t, api.Partial{Busy: true, Seq: 7, Next: 1, Data: filled(2049)}, api.Part{Seq: 7, Frag: 1})
	wantRefuse(t, api.Partial{Busy: true, Seq: 7, Next: 1, Data: filled(5000)}, x)
	for _, next := range []int{math.MinInt, -16, -15, -1, 0, 16, 17, 33, math.MaxInt} {
		wantRefuse(t, api.Partial{Busy: true, Seq: 7, Next: next, Data: "ab"}, x)
	}
	for _, seq := range []int{math.MinInt, -4089, -1, 4096, 4103, math.MaxInt} {
		wantRefuse(t, api.Partial{Busy: true, Seq: seq, Next: 1, Data: "ab"}, x)
	}
	wantWhole(t, api.Partial{Busy: true, Seq: 7, Next: 1}, x, "c")
	wantWhole(t, api.Partial{Busy: true, Seq: 7, Next: 15}, api.Part{Seq: 7, Frag: 15}, "")
	wantRefuse(t, api.Partial{Next: 1}, api.Part{Frag: 1})
	wantRefuse(t, api.Partial{Busy: true}, api.Part{Frag: 1})
	wantWhole(t, api.Partial{Busy: true, Next: 1}, api.Part{Frag: 1}, "")
}

func TestAddOfAllSorts(t *testing.T) {
	l := parts()
	for _, p := range states() {
		for _, x := range l {
			wantAdd(t, p, x, added(p, x))
		}
	}
}

func TestAddInAnyOrder(t *testing.T) {
	r := rand.New(rand.NewSource(183))
	seen := map[int]int{}
	for range 3000 {
		var p api.Partial
		for range 40 {
			x := api.Part{Seq: 7, Frag: p.Next, More: r.Intn(6) > 0, Retry: r.Intn(2) == 0, Data: filled(r.Intn(300))}
			switch r.Intn(12) {
			case 0:
				x.Frag = r.Intn(18) - 1
			case 1:
				x.Seq += r.Intn(2) * (r.Intn(5000) - 100)
			case 2:
				x.Data = filled(r.Intn(2200))
			}
			want := added(p, x)
			p = wantAdd(t, p, x, want)
			seen[want.result]++
		}
	}
	for n := range 3 {
		if seen[n] < 1000 {
			t.Errorf("only %d of the results are %d", seen[n], n)
		}
	}
}

// P18.5

// reassemble adds the pieces of a packet to the state, each of them twice if so wanted.
func reassemble(t *testing.T, p api.Partial, data string, threshold, seq int, twice bool) {
	t.Helper()
	l := Split(data, threshold)
	for i, s := range l {
		x := api.Part{Seq: seq, Frag: i, More: i < len(l)-1, Data: s}
		want := addition{result: Whole, data: data}
		if x.More {
			want = addition{state: api.Partial{Busy: true, Seq: seq, Next: i + 1, Data: strings.Join(l[:i+1], "")}, result: Hold}
		}
		p = wantAdd(t, p, x, want)
		if !twice {
			continue
		}
		x.Retry = true
		if i > 0 {
			want = addition{state: p, result: Refuse}
		}
		p = wantAdd(t, p, x, want)
	}
}

func TestReassemblyFromEveryState(t *testing.T) {
	for _, p := range states() {
		for _, n := range []int{0, 1, 16, 17, 33, 2047, 2048} {
			for _, threshold := range []int{0, 1, n / 16, n/15 + 1, n / 2, n - 1, n} {
				reassemble(t, p, filled(n), threshold, 7, false)
				reassemble(t, p, filled(n), threshold, 7, true)
			}
		}
	}
}

func TestReassemblyOfPackets(t *testing.T) {
	for n := range 120 {
		data := filled(n)
		for threshold := -1; threshold <= n+1; threshold++ {
			reassemble(t, api.Partial{}, data, threshold, n, threshold%2 == 0)
		}
	}
	for threshold := range mostOctets + 1 {
		reassemble(t, api.Partial{}, filled(mostOctets), threshold, threshold, threshold%2 == 1)
	}
	for seq := range numbers {
		reassemble(t, api.Partial{Busy: true, Seq: seq, Next: 1, Data: "x"}, "abcde", 2, seq, seq%2 == 0)
	}
}

func TestReassemblyOfRandomPackets(t *testing.T) {
	r := rand.New(rand.NewSource(185))
	var p api.Partial
	for range 5000 {
		b := make([]byte, r.Intn(mostOctets+1))
		r.Read(b)
		reassemble(t, p, string(b), r.Intn(len(b)+2), r.Intn(numbers), r.Intn(2) == 0)
		p = api.Partial{Busy: r.Intn(2) == 0, Seq: r.Intn(numbers), Next: r.Intn(17), Data: string(b[:r.Intn(len(b)+1)])}
	}
}

// A part that is refused between two pieces does not keep the packet from being reassembled.
func TestReassemblyBetweenRefusedParts(t *testing.T) {
	data := filled(500)
	l := Split(data, 32)
	var p api.Partial
	for i, s := range l {
		for _, x := range []api.Part{{Seq: 4096}, {Seq: 7, Frag: 16}, {Seq: 8, Frag: max(i, 1)}, {Seq: 7, Frag: 15, More: true}, {Seq: 7, Frag: min(i+2, 16), Data: "c"}, {Seq: 7, Frag: i, Data: filled(2049)}} {
			wantRefuse(t, p, x)
		}
		q, n, whole := Add(p, api.Part{Seq: 7, Frag: i, More: i < len(l)-1, Data: s})
		if i == len(l)-1 && (n != Whole || whole != data) {
			t.Errorf("the last piece gives %d and %d octets, want %d and the packet of %d", n, len(whole), Whole, len(data))
		}
		if i < len(l)-1 && (n != Hold || whole != "") {
			t.Errorf("piece %d gives %d and %d octets, want %d and none", i, n, len(whole), Hold)
		}
		p = q
	}
}

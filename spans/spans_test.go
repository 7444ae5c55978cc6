package spans

import (
	"math"
	"math/big"
	"math/rand"
	"slices"
	"testing"

	"airtime/api"
)

// far is the greatest bound for which the chapter promises anything, and -far is the least one.
const far = 1 << 40

// span is the span with these bounds, which may be in any order.
func span(from, to int) api.Span {
	return api.Span{From: from, To: to}
}

// list is the list of the spans with these bounds, which are taken in pairs.
func list(bounds ...int) []api.Span {
	var l []api.Span
	for i := 0; i < len(bounds); i += 2 {
		l = append(l, span(bounds[i], bounds[i+1]))
	}
	return l
}

// low and high are the bounds of the spans that small returns: they are few enough to try all lists of a few spans.
const low, high = -2, 3

// small are the spans with bounds from low to high: empty and inverted ones, and pairs that touch, overlap, contain one another or are equal.
func small() []api.Span {
	var l []api.Span
	for from := low; from <= high; from++ {
		for to := low; to <= high; to++ {
			l = append(l, span(from, to))
		}
	}
	return l
}

// eachSmallList calls f with every list of at most three spans of small. The lists share their memory.
func eachSmallList(f func(l []api.Span)) {
	all := small()
	f(nil)
	var l [3]api.Span
	for _, l[0] = range all {
		f(l[:1])
		for _, l[1] = range all {
			f(l[:2])
			for _, l[2] = range all {
				f(l[:3])
			}
		}
	}
}

// earliest and latest are bounds between which all spans of randomLists lie.
const earliest, latest = -10, 130

// randomLists are unsorted lists of up to 60 spans, also empty and inverted ones; they are the same in every run.
func randomLists() [][]api.Span {
	r := rand.New(rand.NewSource(7))
	var lists [][]api.Span
	for i := range 600 {
		var l []api.Span
		longest := 1 + r.Intn(20)
		for range i % 61 {
			from := r.Intn(100)
			l = append(l, span(from, from-5+r.Intn(longest+10)))
		}
		lists = append(lists, l)
	}
	return lists
}

// contains reports, from the definition, whether a span of l contains the slot t.
func contains(l []api.Span, t int) bool {
	return slices.ContainsFunc(l, func(s api.Span) bool { return t >= s.From && t < s.To })
}

// runs are the greatest spans of slots for which in is true. They are found slot by slot among those at and after from that are before to.
func runs(from, to int, in func(t int) bool) []api.Span {
	var l []api.Span
	for t := from; t < to; t++ {
		if !in(t) {
			continue
		}
		if n := len(l); n > 0 && l[n-1].To == t {
			l[n-1].To = t + 1
			continue
		}
		l = append(l, span(t, t+1))
	}
	return l
}

// unionOf is the union of l, and gapsOf are the gaps of l within w, if all spans lie between from and to.
func unionOf(from, to int, l []api.Span) []api.Span {
	return runs(from, to, func(t int) bool { return contains(l, t) })
}

func gapsOf(from, to int, w api.Span, l []api.Span) []api.Span {
	return runs(from, to, func(t int) bool { return t >= w.From && t < w.To && !contains(l, t) })
}

// slots is the number of slots of l, whose spans are not empty and do not overlap.
func slots(l []api.Span) int {
	n := 0
	for _, s := range l {
		n += s.To - s.From
	}
	return n
}

// scales are ascending bounds up to the limits of the chapter: scale[i] takes the place of the bound low+i of small.
// Spans with these bounds touch, overlap and contain one another as those of small do.
var scales = [][high - low + 1]int{
	{-far, -far + 1, -1, 0, far - 1, far},
	{-far, -far / 2, -1 << 32, 1 << 31, far / 2, far},
	{-far, -far + 1, -far + 2, -far + 3, -far + 4, -far + 5},
	{far - 5, far - 4, far - 3, far - 2, far - 1, far},
	{-far, -7, 0, 1, 5, api.MaxSlot},
}

// scaled is l with every bound replaced by the one of the scale.
func scaled(scale [high - low + 1]int, l []api.Span) []api.Span {
	var r []api.Span
	for _, s := range l {
		r = append(r, span(scale[s.From-low], scale[s.To-low]))
	}
	return r
}

// P7.1

func TestLength(t *testing.T) {
	for _, c := range []struct{ from, to, want int }{
		{3, 7, 4}, {0, 1, 1}, {0, 0, 0}, {5, 5, 0}, {7, 3, 0}, {1, 0, 0}, {-3, 4, 7}, {-7, -3, 4}, {-3, -7, 0}, {-3, -3, 0}, {4, -4, 0},
		{0, api.MaxSlot, api.MaxSlot}, {-far, far, 2 * far}, {far, -far, 0}, {far, far, 0}, {-far, -far, 0},
		{far - 1, far, 1}, {far, far - 1, 0}, {-far, -far + 1, 1}, {-far, 0, far}, {0, far, far}, {0, -far, 0},
	} {
		if got := Length(span(c.from, c.to)); got != c.want {
			t.Errorf("the length of %d to %d is %d, want %d", c.from, c.to, got, c.want)
		}
	}
}

func TestHas(t *testing.T) {
	for _, c := range []struct {
		from, to, t int
		want        bool
	}{
		{3, 7, 3, true}, {3, 7, 7, false}, {3, 7, 2, false}, {3, 7, 4, true}, {3, 7, 6, true}, {3, 7, 8, false}, {3, 4, 3, true}, {3, 4, 4, false},
		{7, 3, 3, false}, {7, 3, 5, false}, {7, 3, 6, false}, {7, 3, 7, false}, {5, 5, 5, false}, {5, 5, 4, false}, {0, 0, 0, false},
		{-4, -1, -4, true}, {-4, -1, -1, false}, {-4, -1, -5, false}, {-4, 4, 0, true}, {4, -4, 0, false},
		{-far, far, -far, true}, {-far, far, far - 1, true}, {-far, far, far, false}, {-far, far, -far - 1, false}, {-far, far, 0, true}, {far, -far, 0, false},
		{-far, far, math.MinInt, false}, {-far, far, math.MaxInt, false}, {3, 7, math.MinInt, false}, {3, 7, math.MaxInt, false},
	} {
		if got := Has(span(c.from, c.to), c.t); got != c.want {
			t.Errorf("that %d to %d contains %d is %v", c.from, c.to, c.t, got)
		}
	}
}

func TestLengthIsTheNumberOfSlotsThatTheSpanHas(t *testing.T) {
	for _, s := range small() {
		n := 0
		for slot := low - 2; slot <= high+2; slot++ {
			want := s.From <= slot && slot < s.To
			if got := Has(s, slot); got != want {
				t.Errorf("that %v contains %d is %v", s, slot, got)
			}
			if want {
				n++
			}
		}
		if got := Length(s); got != n {
			t.Errorf("the length of %v is %d, want %d", s, got, n)
		}
	}
}

// P7.2

func TestCrossWithExamples(t *testing.T) {
	for _, c := range []struct{ a, b, want api.Span }{
		{span(0, 5), span(3, 9), span(3, 5)},
		{span(0, 5), span(4, 9), span(4, 5)},
		{span(0, 9), span(3, 5), span(3, 5)},
		{span(3, 5), span(3, 5), span(3, 5)},
		{span(3, 5), span(3, 9), span(3, 5)},
		{span(0, 5), span(3, 5), span(3, 5)},
		{span(0, 5), span(5, 9), span(0, 0)},
		{span(0, 5), span(7, 9), span(0, 0)},
		{span(0, 5), span(2, 2), span(0, 0)},
		{span(0, 9), span(7, 3), span(0, 0)},
		{span(4, 4), span(4, 4), span(0, 0)},
		{span(7, 3), span(8, 2), span(0, 0)},
		{span(-9, -3), span(-5, 2), span(-5, -3)},
		{span(-far, far), span(-far, far), span(-far, far)},
		{span(-far, far), span(far-1, far), span(far-1, far)},
		{span(-far, 0), span(-1, far), span(-1, 0)},
		{span(-far, 0), span(0, far), span(0, 0)},
		{span(far, far), span(-far, far), span(0, 0)},
		{span(far, -far), span(-far, far), span(0, 0)},
	} {
		for _, pair := range [][2]api.Span{{c.a, c.b}, {c.b, c.a}} {
			got, ok := Cross(pair[0], pair[1])
			if got != c.want || ok != (c.want != api.Span{}) {
				t.Errorf("the intersection of %v and %v is %v, %v", pair[0], pair[1], got, ok)
			}
		}
	}
}

func TestCrossHasTheSlotsOfBoth(t *testing.T) {
	for _, a := range small() {
		for _, b := range small() {
			both := runs(low, high, func(t int) bool { return contains(list(a.From, a.To), t) && contains(list(b.From, b.To), t) })
			var want api.Span
			if len(both) > 0 {
				want = both[0]
			}
			// The intersection of two spans is one span, or none.
			if got, ok := Cross(a, b); got != want || ok != (len(both) == 1) {
				t.Errorf("the intersection of %v and %v is %v, %v, want %v", a, b, got, ok, both)
			}
			for _, scale := range scales {
				l := scaled(scale, []api.Span{a, b})
				got, ok := Cross(l[0], l[1])
				if !ok && got != (api.Span{}) || ok != (len(both) == 1) || ok && got != scaled(scale, both)[0] {
					t.Errorf("the intersection of %v and %v is %v, %v", l[0], l[1], got, ok)
				}
			}
		}
	}
}

// P7.3

func TestUnionAndTotalWithExamples(t *testing.T) {
	for _, c := range []struct {
		l, want []api.Span
		total   int
	}{
		{list(5, 7, 0, 2, 2, 3, 9, 9), list(0, 3, 5, 7), 5},
		{nil, nil, 0},
		{[]api.Span{}, nil, 0},
		{list(4, 4), nil, 0},
		{list(7, 3), nil, 0},
		{list(4, 4, 7, 3, 0, 0), nil, 0},
		{list(3, 7), list(3, 7), 4},
		{list(3, 7, 3, 7, 3, 7), list(3, 7), 4},
		{list(0, 2, 2, 4), list(0, 4), 4},
		{list(2, 4, 0, 2), list(0, 4), 4},
		{list(0, 2, 3, 4), list(0, 2, 3, 4), 3},
		{list(3, 4, 0, 2), list(0, 2, 3, 4), 3},
		{list(0, 5, 3, 9), list(0, 9), 9},
		{list(0, 9, 3, 5), list(0, 9), 9},
		{list(0, 9, 0, 5, 4, 9), list(0, 9), 9},
		{list(0, 9, 2, 3, 4, 5, 9, 11), list(0, 11), 11},
		{list(0, 9, 2, 3, 8, 12), list(0, 12), 12},
		{list(0, 3, 3, 3, 4, 6, 3, 1), list(0, 3, 4, 6), 5},
		{list(0, 2, 4, 6, 1, 5), list(0, 6), 6},
		{list(0, 2, 4, 6, 2, 4), list(0, 6), 6},
		{list(8, 9, 6, 7, 4, 5, 2, 3, 0, 1), list(0, 1, 2, 3, 4, 5, 6, 7, 8, 9), 5},
		{list(-3, -1, -1, 2), list(-3, 2), 5},
		{list(-1, 1, -5, -3), list(-5, -3, -1, 1), 4},
		{list(0, far, -far, 0), list(-far, far), 2 * far},
		{list(1, far, -far, 0), list(-far, 0, 1, far), 2*far - 1},
		{list(far, -far, far-1, far, -far, -far+1), list(-far, -far+1, far-1, far), 2},
		{list(-far, far, 3, 5, far, far), list(-far, far), 2 * far},
	} {
		if got := Union(c.l); !slices.Equal(got, c.want) {
			t.Errorf("the union of %v is %v, want %v", c.l, got, c.want)
		}
		if got := Total(c.l); got != c.total {
			t.Errorf("the total of %v is %d, want %d", c.l, got, c.total)
		}
	}
}

func TestUnionAndTotalOfAllSmallLists(t *testing.T) {
	eachSmallList(func(l []api.Span) {
		want := unionOf(low, high, l)
		if got := Union(l); !slices.Equal(got, want) {
			t.Errorf("the union of %v is %v, want %v", l, got, want)
		}
		if got := Total(l); got != slots(want) {
			t.Errorf("the total of %v is %d, want %d", l, got, slots(want))
		}
	})
}

func TestUnionAndTotalWithDistantBounds(t *testing.T) {
	eachSmallList(func(l []api.Span) {
		union := unionOf(low, high, l)
		for _, scale := range scales {
			distant, want := scaled(scale, l), scaled(scale, union)
			if got := Union(distant); !slices.Equal(got, want) {
				t.Errorf("the union of %v is %v, want %v", distant, got, want)
			}
			if got := Total(distant); got != slots(want) {
				t.Errorf("the total of %v is %d, want %d", distant, got, slots(want))
			}
		}
	})
}

func TestUnionAndTotalOfLongLists(t *testing.T) {
	for _, l := range randomLists() {
		want := unionOf(earliest, latest, l)
		if got := Union(l); !slices.Equal(got, want) {
			t.Errorf("the union of %v is %v, want %v", l, got, want)
		}
		if got := Total(l); got != slots(want) {
			t.Errorf("the total of %v is %d, want %d", l, got, slots(want))
		}
	}
}

func TestUnionOfManySpans(t *testing.T) {
	const n = 20000
	var apart, touching, want []api.Span
	for i := range n {
		k := i * 7919 % n // all numbers below n, in another order
		apart = append(apart, span(2*k, 2*k+1))
		touching = append(touching, span(k, k+1))
		want = append(want, span(2*i, 2*i+1))
	}
	if got := Union(apart); !slices.Equal(got, want) || Total(apart) != n {
		t.Errorf("the union of %d spans that are apart has %d spans with %d slots", n, len(got), Total(apart))
	}
	if got := Union(touching); !slices.Equal(got, list(0, n)) || Total(touching) != n {
		t.Errorf("the union of %d spans that touch has %d spans with %d slots", n, len(got), Total(touching))
	}
}

// P7.4

func TestGapsWithExamples(t *testing.T) {
	for _, c := range []struct {
		within  api.Span
		l, want []api.Span
	}{
		{span(0, 10), list(2, 4, 4, 5), list(0, 2, 5, 10)},
		{span(0, 10), nil, list(0, 10)},
		{span(0, 10), []api.Span{}, list(0, 10)},
		{span(0, 10), list(3, 3), list(0, 10)},
		{span(0, 10), list(7, 3), list(0, 10)},
		{span(0, 10), list(3, 3, 7, 3, 2, 4), list(0, 2, 4, 10)},
		{span(0, 10), list(0, 10), nil},
		{span(0, 10), list(-3, 12), nil},
		{span(0, 10), list(-3, 5, 5, 12), nil},
		{span(0, 10), list(5, 10, 0, 5), nil},
		{span(0, 10), list(0, 9), list(9, 10)},
		{span(0, 10), list(1, 10), list(0, 1)},
		{span(0, 10), list(-5, 1, 9, 20), list(1, 9)},
		{span(0, 10), list(9, 20, -5, 1), list(1, 9)},
		{span(0, 10), list(10, 20), list(0, 10)},
		{span(0, 10), list(-5, 0), list(0, 10)},
		{span(0, 10), list(-5, -1, 11, 20, 30, 40), list(0, 10)},
		{span(0, 10), list(6, 7, 1, 2, 3, 5), list(0, 1, 2, 3, 5, 6, 7, 10)},
		{span(0, 10), list(0, 9, 2, 3), list(9, 10)},
		{span(10, 20), list(2, 4, 6, 8, 12, 13, 22, 24), list(10, 12, 13, 20)},
		{span(10, 20), list(2, 4, 6, 8), list(10, 20)},
		{span(10, 20), list(22, 24, 26, 28), list(10, 20)},
		{span(5, 5), nil, nil},
		{span(5, 5), list(0, 3), nil},
		{span(5, 5), list(0, 3, 7, 9), nil},
		{span(8, 2), nil, nil},
		{span(8, 2), list(4, 5), nil},
		{span(8, 2), list(0, 1, 9, 10), nil},
		{span(-10, -5), list(-8, -7), list(-10, -8, -7, -5)},
		{span(-far, far), nil, list(-far, far)},
		{span(-far, far), list(-far, far), nil},
		{span(-far, far), list(-far+1, far-1), list(-far, -far+1, far-1, far)},
		{span(0, 1), list(-far, 0, 1, far), list(0, 1)},
		{span(far, -far), list(-far, far), nil},
		{span(far, far), nil, nil},
		{span(-far, -far), list(-far, far), nil},
	} {
		if got := Gaps(c.within, c.l); !slices.Equal(got, c.want) {
			t.Errorf("within %v, the gaps of %v are %v, want %v", c.within, c.l, got, c.want)
		}
	}
}

func TestGapsOfAllSmallLists(t *testing.T) {
	eachSmallList(func(l []api.Span) {
		for _, within := range small() {
			if got, want := Gaps(within, l), gapsOf(low, high, within, l); !slices.Equal(got, want) {
				t.Errorf("within %v, the gaps of %v are %v, want %v", within, l, got, want)
			}
		}
	})
}

func TestGapsWithDistantBounds(t *testing.T) {
	all := small()
	for _, within := range all {
		for _, a := range all {
			for _, b := range all {
				l := []api.Span{a, b}
				gaps := gapsOf(low, high, within, l)
				for _, scale := range scales {
					w, distant := scaled(scale, []api.Span{within})[0], scaled(scale, l)
					if got, want := Gaps(w, distant), scaled(scale, gaps); !slices.Equal(got, want) {
						t.Errorf("within %v, the gaps of %v are %v, want %v", w, distant, got, want)
					}
				}
			}
		}
	}
}

func TestGapsOfLongLists(t *testing.T) {
	r := rand.New(rand.NewSource(8))
	for _, l := range randomLists() {
		for _, within := range list(earliest, latest, 0, 100, 20, 60, 60, 20, 50, 50, 50, 51, r.Intn(60), 40+r.Intn(60)) {
			if got, want := Gaps(within, l), gapsOf(earliest, latest, within, l); !slices.Equal(got, want) {
				t.Errorf("within %v, the gaps of %v are %v, want %v", within, l, got, want)
			}
		}
	}
}

// P7.5

// next is the result of Next from its definition, computed with numbers that have no limits.
func next(now, first, period int) (int, bool) {
	if period < 1 || first < 0 || first > api.MaxSlot {
		return 0, false
	}
	start, step := big.NewInt(int64(first)), big.NewInt(int64(period))
	// k is the quotient, rounded up, which is what the negated quotient of the negated number is if it is rounded down.
	k := new(big.Int).Sub(start, big.NewInt(int64(max(now, 0))))
	k.Neg(k.Div(k, step))
	if k.Sign() < 0 {
		k.SetInt64(0)
	}
	n := start.Add(start, k.Mul(k, step))
	if n.Cmp(big.NewInt(api.MaxSlot)) > 0 {
		return 0, false
	}
	return int(n.Int64()), true
}

func TestNextWithExamples(t *testing.T) {
	const most = api.MaxSlot
	for _, c := range []struct{ now, first, period, want int }{
		{11, 3, 5, 13}, {13, 3, 5, 13}, {12, 3, 5, 13}, {14, 3, 5, 18}, {9, 3, 5, 13}, {8, 3, 5, 8}, {7, 3, 5, 8}, {4, 3, 5, 8},
		{3, 3, 5, 3}, {2, 3, 5, 3}, {0, 3, 5, 3}, {0, 0, 5, 0}, {1, 0, 5, 5}, {5, 0, 5, 5}, {6, 0, 5, 10},
		{-1, 3, 5, 3}, {-2, 3, 5, 3}, {-9, 3, 5, 3}, {-1, 0, 5, 0}, {-5, 0, 5, 0}, {-9, 0, 5, 0}, {math.MinInt, 3, 5, 3}, {math.MinInt, 0, 1, 0},
		{7, 0, 1, 7}, {7, 7, 1, 7}, {7, 8, 1, 8}, {8, 7, 1, 8},
		{most, 0, most, most}, {1, 0, most, most}, {0, 0, most, 0}, {1, 0, most - 1, most - 1}, {most, 1, most - 1, most}, {2, 1, most - 1, most},
		{most, 0, 1, most}, {most - 1, 0, 1, most - 1}, {most, most - 1, 1, most}, {most - 3, 0, 4, most}, {most - 4, 0, 4, most - 4},
		{most, most, 1, most}, {0, most, 1, most}, {-1, most, 1, most}, {most - 1, most, 1, most}, {most, most, math.MaxInt, most},
		{0, 3, math.MaxInt, 3}, {3, 3, math.MaxInt, 3}, {0, 0, math.MaxInt, 0}, {math.MinInt, most, math.MaxInt, most},
	} {
		if got, ok := Next(c.now, c.first, c.period); got != c.want || !ok {
			t.Errorf("Next(%d, %d, %d) is %d, %v, want %d", c.now, c.first, c.period, got, ok, c.want)
		}
	}
}

func TestNextWithoutResult(t *testing.T) {
	const most = api.MaxSlot
	for _, c := range []struct{ now, first, period int }{
		{5, 3, 0}, {5, 3, -1}, {5, 3, -5}, {3, 3, 0}, {0, 3, 0}, {-1, 3, 0}, {0, 0, 0}, {5, 3, math.MinInt}, {0, 0, math.MinInt}, {most, most, 0},
		{5, -1, 5}, {0, -1, 1}, {-1, -1, 5}, {-5, -5, 5}, {5, -5, 5}, {5, math.MinInt, 5}, {0, math.MinInt, math.MaxInt}, {math.MinInt, math.MinInt, 1},
		{0, most + 1, 1}, {most + 1, most + 1, 1}, {-1, most + 1, 1}, {most, most + 1, 1}, {0, math.MaxInt, 1}, {math.MaxInt, math.MaxInt, math.MaxInt},
		{most + 1, 0, 1}, {most + 1, most, 1}, {most + 2, 0, 1}, {2 * most, 0, most}, {math.MaxInt, 0, 1}, {math.MaxInt, most, 1}, {math.MaxInt, 0, math.MaxInt},
		{math.MaxInt, 3, 5}, {math.MaxInt - 1, 1, 2}, {math.MaxInt, most, math.MaxInt},
		{most, 1, most}, {2, 1, most}, {most, most - 1, 2}, {most - 2, 0, most + 1}, {1, 0, most + 1}, {most, 0, most - 1}, {most, 0, 3}, {most - 2, 2, 5},
		{4, 3, math.MaxInt}, {5, 3, 1 << 62}, {most, 3, math.MaxInt}, {1, 0, math.MaxInt}, {most, most - 1, math.MaxInt}, {most, 1, math.MaxInt - 1},
	} {
		if got, ok := Next(c.now, c.first, c.period); got != 0 || ok {
			t.Errorf("Next(%d, %d, %d) is %d, %v", c.now, c.first, c.period, got, ok)
		}
	}
}

func TestNextCountsFromFirst(t *testing.T) {
	for first := range 12 {
		for period := 1; period < 12; period++ {
			for now := -15; now < 60; now++ {
				want := first
				for want < now {
					want += period
				}
				if got, ok := Next(now, first, period); got != want || !ok {
					t.Errorf("Next(%d, %d, %d) is %d, %v, want %d", now, first, period, got, ok, want)
				}
			}
		}
	}
}

func TestNextAtTheLimits(t *testing.T) {
	r := rand.New(rand.NewSource(9))
	numbers := []int{math.MinInt, math.MinInt + 1, -far, math.MaxInt, math.MaxInt - 1, math.MaxInt - api.MaxSlot, math.MaxInt / 2, far, 1 << 32, 1 << 62}
	for d := -4; d <= 4; d++ {
		numbers = append(numbers, d, api.MaxSlot+d, api.MaxSlot/2+d, api.MaxSlot/3+d, 2*api.MaxSlot+d, 100+d)
	}
	for range 30 {
		numbers = append(numbers, r.Intn(api.MaxSlot), r.Intn(1<<r.Intn(24)+1))
	}
	for _, now := range numbers {
		for _, first := range numbers {
			for _, period := range numbers {
				want, wanted := next(now, first, period)
				if got, ok := Next(now, first, period); got != want || ok != wanted {
					t.Errorf("Next(%d, %d, %d) is %d, %v, want %d, %v", now, first, period, got, ok, want, wanted)
				}
			}
		}
	}
}

// P7.6

// holders is the number of spans of l that contain the slot t.
func holders(l []api.Span, t int) int {
	n := 0
	for _, s := range l {
		if Has(s, t) {
			n++
		}
	}
	return n
}

// restricted is the part of l within w.
func restricted(w api.Span, l []api.Span) []api.Span {
	var r []api.Span
	for _, s := range l {
		if part, ok := Cross(s, w); ok {
			r = append(r, part)
		}
	}
	return r
}

func TestUnionAndGapsFillWithin(t *testing.T) {
	for _, l := range randomLists() {
		for _, within := range list(-20, 140, 0, 100, 30, 31, 90, 10, 40, 40, 70, 105) {
			fill := append(restricted(within, Union(l)), Gaps(within, l)...)
			for slot := earliest - 15; slot < latest+15; slot++ {
				want := 0
				if Has(within, slot) {
					want = 1
				}
				if got := holders(fill, slot); got != want {
					t.Errorf("within %v, %d spans of the union and the gaps of %v contain %d, want %d", within, got, l, slot, want)
				}
			}
			if got := Total(fill); got != Length(within) {
				t.Errorf("the union of %v and its gaps have %d slots within %v", l, got, within)
			}
		}
	}
}

func TestUnionAndGapsFillWithinWithDistantBounds(t *testing.T) {
	all := small()
	for i, a := range all {
		for _, b := range all {
			for _, scale := range scales {
				l := scaled(scale, []api.Span{all[(7*i+5)%len(all)], a, b})
				for _, within := range list(-far, far, scale[1], scale[4], far-3, far, 0, 0, far, -far) {
					fill := append(restricted(within, Union(l)), Gaps(within, l)...)
					want := list(within.From, within.To)
					if Length(within) == 0 {
						want = nil
					}
					// The spans do not overlap if their lengths add up to that of their union.
					if got := Union(fill); !slices.Equal(got, want) || slots(fill) != Length(within) {
						t.Errorf("the union of %v and its gaps are %v within %v", l, fill, within)
					}
				}
			}
		}
	}
}

func TestUnionOfUnionIsTheSame(t *testing.T) {
	eachSmallList(func(l []api.Span) {
		u := Union(l)
		if got := Union(u); !slices.Equal(got, u) {
			t.Errorf("the union of %v is %v, and that one's union is %v", l, u, got)
		}
	})
	for _, l := range randomLists() {
		u := Union(l)
		if got := Union(u); !slices.Equal(got, u) {
			t.Errorf("the union of %v is %v, and that one's union is %v", l, u, got)
		}
	}
}

func TestTotalIsTheSumOfTheLengthsOfTheUnion(t *testing.T) {
	for _, l := range randomLists() {
		n := 0
		for _, s := range Union(l) {
			n += Length(s)
		}
		if got := Total(l); got != n {
			t.Errorf("the total of %v is %d, and the lengths of its union add up to %d", l, got, n)
		}
	}
}

// R1, and the definition of a span's bounds: the calls return, and do not panic, for every int as a bound.

func TestCallsReturnForEveryBound(t *testing.T) {
	bounds := []int{math.MinInt, math.MinInt + 1, -far - 1, -far, -1, 0, 1, far, far + 1, math.MaxInt - 1, math.MaxInt}
	var all []api.Span
	for _, from := range bounds {
		for _, to := range bounds {
			all = append(all, span(from, to))
		}
	}
	for _, a := range all {
		Length(a)
		for _, b := range all {
			l := []api.Span{a, b}
			Cross(a, b)
			Has(a, b.From)
			Union(l)
			Total(l)
			Gaps(a, l)
			Gaps(b, all)
		}
	}
	Union(all)
	Total(all)
}

// R5

func TestArgumentsStayAsTheyAre(t *testing.T) {
	for _, l := range append(randomLists(), list(5, 7, 0, 2, 2, 3, 9, 9), list(0, 2, 3, 5), list(0, 2, 1, 5)) {
		within := span(0, 50)
		// What lies behind the end of the list, in its memory, belongs to the caller too.
		memory := append(slices.Clone(l), list(70, 80, 60, 65)...)
		before := slices.Clone(memory)
		u, gaps := Union(memory[:len(l)]), Gaps(within, memory[:len(l)])
		Total(memory[:len(l)])
		if !slices.Equal(memory, before) {
			t.Errorf("a call changes %v to %v", before, memory)
		}
		for _, result := range [][]api.Span{u, gaps} {
			for i := range result {
				result[i] = span(-77, -76)
			}
			_ = append(result, span(-75, -74))
		}
		if !slices.Equal(memory, before) {
			t.Errorf("a result shares the memory of its argument %v", before)
		}
		if !slices.Equal(Union(l), unionOf(earliest, latest, l)) || !slices.Equal(Gaps(within, l), gapsOf(earliest, latest, within, l)) {
			t.Errorf("a later call for %v sees what became of an earlier result", l)
		}
	}
}

func TestResultsShareNoMemory(t *testing.T) {
	l := list(0, 2, 4, 6, 8, 9)
	u, gaps := Union(l), Gaps(span(0, 10), l)
	again, gapsAgain := Union(l), Gaps(span(0, 10), l)
	u[0], gaps[0] = span(40, 50), span(40, 50)
	if !slices.Equal(again, l) || !slices.Equal(gapsAgain, list(2, 4, 6, 8, 9, 10)) {
		t.Errorf("a change of a result changes the one of another call: %v, %v", again, gapsAgain)
	}
}

func TestTheOrderOfTheSpansDoesNotMatter(t *testing.T) {
	r := rand.New(rand.NewSource(10))
	for _, l := range randomLists() {
		other := slices.Clone(l)
		r.Shuffle(len(other), func(i, j int) { other[i], other[j] = other[j], other[i] })
		within := span(10, 90)
		if !slices.Equal(Union(l), Union(other)) || Total(l) != Total(other) || !slices.Equal(Gaps(within, l), Gaps(within, other)) {
			t.Errorf("the results for %v and %v differ", l, other)
		}
	}
}

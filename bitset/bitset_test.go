package bitset

import (
	"math"
	"math/rand"
	"slices"
	"strconv"
	"strings"
	"testing"

	"airtime/api"
)

const all = ^uint64(0)

// outside are integers that are elements of no set.
var outside = []int{-1, 64, 65, -64, 127, 128, 1 << 32, -(1 << 32), math.MinInt, math.MaxInt}

// samples returns sets of all densities, with the empty one and the full one; it is the same list in every run.
func samples() []uint64 {
	r := rand.New(rand.NewSource(1))
	l := []uint64{0, 1, 2, 6, 8, 9, 1 << 62, 1 << 63, 1<<63 | 1, all, all - 1, all >> 1, 1<<9 | 1<<10}
	for i := range 64 {
		l = append(l, 1<<i, all<<i, all>>i)
	}
	for range 500 {
		l = append(l, r.Uint64(), r.Uint64()&r.Uint64()&r.Uint64(), r.Uint64()|r.Uint64()|r.Uint64())
	}
	return l
}

// members returns the elements of s as the definition of a set says, one bit after the other.
func members(s uint64) []int {
	var l []int
	for i := 0; i < 64; i++ {
		if s>>i&1 == 1 {
			l = append(l, i)
		}
	}
	return l
}

// P1.1

func TestOf(t *testing.T) {
	for _, c := range []struct {
		l    []int
		want uint64
	}{
		{nil, 0},
		{[]int{}, 0},
		{[]int{3, 0, 64, 3}, 9},
		{[]int{0}, 1},
		{[]int{63}, 1 << 63},
		{[]int{63, 0, 63}, 1<<63 | 1},
		{outside, 0},
		{append([]int{5}, outside...), 32},
	} {
		if s := Of(c.l...); s != c.want {
			t.Errorf("Of(%v) = %#x, want %#x", c.l, s, c.want)
		}
	}
}

func TestOfTakesWhatSetsContain(t *testing.T) {
	for _, s := range samples() {
		l := members(s)
		slices.Reverse(l)
		if x := Of(l...); x != s {
			t.Errorf("Of(%v) = %#x, want %#x", l, x, s)
		}
	}
}

func TestOfLeavesItsArgument(t *testing.T) {
	l := []int{3, 0, 64, 3}
	Of(l...)
	if !slices.Equal(l, []int{3, 0, 64, 3}) {
		t.Error("Of changed its argument:", l)
	}
}

// P1.2

func TestHasWithWithout(t *testing.T) {
	if With(8, 0) != 9 || Without(9, 3) != 1 || Has(9, 64) {
		t.Error("the examples of the chapter")
	}
	for _, s := range samples() {
		for i := range 64 {
			bit := uint64(1) << i
			if Has(s, i) != (s&bit != 0) {
				t.Errorf("Has(%#x, %d) = %v", s, i, Has(s, i))
			}
			if x := With(s, i); x != s|bit {
				t.Errorf("With(%#x, %d) = %#x", s, i, x)
			}
			if x := Without(s, i); x != s&^bit {
				t.Errorf("Without(%#x, %d) = %#x", s, i, x)
			}
		}
	}
}

func TestHasWithWithoutOutside(t *testing.T) {
	for _, s := range []uint64{0, 1, 9, 1 << 63, all} {
		for _, i := range outside {
			if Has(s, i) {
				t.Errorf("Has(%#x, %d)", s, i)
			}
			if x := With(s, i); x != s {
				t.Errorf("With(%#x, %d) = %#x", s, i, x)
			}
			if x := Without(s, i); x != s {
				t.Errorf("Without(%#x, %d) = %#x", s, i, x)
			}
		}
	}
}

// P1.3

func TestCount(t *testing.T) {
	for s, want := range map[uint64]int{0: 0, 1: 1, 9: 2, 1 << 63: 1, all: 64, all - 1: 63} {
		if n := Count(s); n != want {
			t.Errorf("Count(%#x) = %d, want %d", s, n, want)
		}
	}
	for _, s := range samples() {
		if n := Count(s); n != len(members(s)) {
			t.Errorf("Count(%#x) = %d", s, n)
		}
	}
}

func TestFirst(t *testing.T) {
	if i, ok := First(0); i != 0 || ok {
		t.Errorf("First(0) = %d, %v", i, ok)
	}
	for s, want := range map[uint64]int{1: 0, 8: 3, 9: 0, 1 << 63: 63, 3 << 62: 62, all: 0} {
		if i, ok := First(s); i != want || !ok {
			t.Errorf("First(%#x) = %d, %v, want %d", s, i, ok, want)
		}
	}
}

// P1.4

func TestEach(t *testing.T) {
	if l := slices.Collect(Each(9)); !slices.Equal(l, []int{0, 3}) {
		t.Error("Each(9) yields", l)
	}
	for _, s := range samples() {
		if l := slices.Collect(Each(s)); !slices.Equal(l, members(s)) {
			t.Errorf("Each(%#x) yields %v", s, l)
		}
	}
}

func TestEachStops(t *testing.T) {
	for stop := 1; stop <= 64; stop++ {
		var l []int
		for i := range Each(all) {
			l = append(l, i)
			if len(l) == stop {
				break
			}
		}
		if !slices.Equal(l, members(all)[:stop]) {
			t.Errorf("Each, stopped after %d elements, yielded %v", stop, l)
		}
	}
}

func TestEachRefusedYieldIsNotCalledAgain(t *testing.T) {
	calls := 0
	Each(all)(func(int) bool {
		calls++
		return calls < 3
	})
	if calls != 3 {
		t.Error("yield was called", calls, "times")
	}
}

func TestEachIsUsedAgain(t *testing.T) {
	each := Each(9 | 1<<63)
	for range each {
		break
	}
	for range 2 {
		if l := slices.Collect(each); !slices.Equal(l, []int{0, 3, 63}) {
			t.Error("a used iterator yields", l)
		}
	}
}

func TestEachInsideItself(t *testing.T) {
	each := Each(6)
	var l []int
	for i := range each {
		for k := range each {
			l = append(l, i, k)
		}
	}
	if !slices.Equal(l, []int{1, 1, 1, 2, 2, 1, 2, 2}) {
		t.Error("nested iterations yield", l)
	}
}

// P1.5

func TestDown(t *testing.T) {
	for _, c := range []struct {
		s    uint64
		n    int
		want uint64
	}{
		{9, 1, 4},
		{9, 0, 9},
		{9, -1, 9},
		{9, math.MinInt, 9},
		{9, 3, 1},
		{9, 4, 0},
		{1 << 63, 63, 1},
		{all, 63, 1},
		{all, 64, 0},
		{all, 65, 0},
		{all, 1 << 32, 0},
		{all, math.MaxInt, 0},
		{all, -64, all},
		{0, 1, 0},
	} {
		if s := Down(c.s, c.n); s != c.want {
			t.Errorf("Down(%#x, %d) = %#x, want %#x", c.s, c.n, s, c.want)
		}
	}
}

func TestDownMovesEachElement(t *testing.T) {
	for _, s := range samples() {
		for n := -2; n <= 66; n++ {
			var want []int
			for _, i := range members(s) {
				if i >= max(n, 0) {
					want = append(want, i-max(n, 0))
				}
			}
			if l := members(Down(s, n)); !slices.Equal(l, want) {
				t.Errorf("Down(%#x, %d) has %v, want %v", s, n, l, want)
			}
		}
	}
}

func TestRange(t *testing.T) {
	for _, c := range []struct {
		from, to int
		want     uint64
	}{
		{-5, 2, 3},
		{2, 2, 0},
		{5, 2, 0},
		{0, 0, 0},
		{0, 64, all},
		{0, 63, all >> 1},
		{63, 64, 1 << 63},
		{62, 1000, 3 << 62},
		{64, 65, 0},
		{-5, -2, 0},
		{-5, 0, 0},
		{math.MinInt, math.MaxInt, all},
		{math.MaxInt, math.MinInt, 0},
		{math.MinInt, math.MinInt, 0},
		{math.MaxInt, math.MaxInt, 0},
		{math.MinInt, 1, 1},
		{63, math.MaxInt, 1 << 63},
	} {
		if s := Range(c.from, c.to); s != c.want {
			t.Errorf("Range(%d, %d) = %#x, want %#x", c.from, c.to, s, c.want)
		}
	}
}

func TestRangeHasWhatLiesBetween(t *testing.T) {
	for from := -3; from <= 67; from++ {
		for to := -3; to <= 67; to++ {
			s := Range(from, to)
			for i := range 64 {
				if Has(s, i) != (from <= i && i < to) {
					t.Errorf("Range(%d, %d) = %#x is wrong about %d", from, to, s, i)
				}
			}
		}
	}
}

// P1.6

// texts are sets with their texts.
var texts = map[uint64]string{
	0:            "-",
	1:            "0",
	9:            "0,3",
	1 << 63:      "63",
	1<<10 | 1<<9: "9,10",
	1<<63 | 1:    "0,63",
}

func TestText(t *testing.T) {
	for s, want := range texts {
		if text := Text(s); text != want {
			t.Errorf("Text(%#x) = %q, want %q", s, text, want)
		}
	}
	var words []string
	for i := range 64 {
		words = append(words, strconv.Itoa(i))
	}
	if text := Text(all); text != strings.Join(words, ",") {
		t.Error("the text of the full set is", text)
	}
}

func TestParse(t *testing.T) {
	for want, text := range texts {
		if s, e := Parse(text); s != want || e != api.OK {
			t.Errorf("Parse(%q) = %#x, %v", text, s, e)
		}
	}
	if s, e := Parse(Text(all)); s != all || e != api.OK {
		t.Errorf("Parse of the full set = %#x, %v", s, e)
	}
}

func TestParseRejects(t *testing.T) {
	for _, text := range []string{
		"", " ", ",", ",,", "--", "-,", "-,0", "0,-", "- ", " -",
		"3,0", "0,0", "0,3,3", "1,2,0", "0,1,1,2",
		"64", "0,64", "100", "99999999999999999999", "-1", "-0", "-9223372036854775808",
		"00", "01", "0,03", "+1", "0,+3",
		"0,", ",0", "0,,3", "0 ,3", "0, 3", "0,3 ", " 0,3", "0,3\n", "0,3,",
		"0;3", "0.3", "0x1", "1_0", "1e1", "a", "0,a", "\x00", "0\x00", "٣", "\xff",
		strings.Repeat("0,", 1000), strings.Repeat("1", 1000), Text(all) + ",64", Text(all) + "," + Text(all),
	} {
		if s, e := Parse(text); s != 0 || e != api.ErrForm {
			t.Errorf("Parse(%q) = %#x, %v, want 0 and ErrForm", text, s, e)
		}
	}
}

// Every text of up to four of these octets is accepted exactly if Text returns it.
func TestParseAcceptsNothingElse(t *testing.T) {
	var try func(text string)
	try = func(text string) {
		s, e := Parse(text)
		if e == api.OK && Text(s) != text || e != api.OK && (s != 0 || e != api.ErrForm) {
			t.Errorf("Parse(%q) = %#x, %v", text, s, e)
		}
		if len(text) < 4 {
			for _, octet := range "0136,-+ " {
				try(text + string(octet))
			}
		}
	}
	try("")
}

// P1.7

func TestParseOfText(t *testing.T) {
	for _, s := range samples() {
		if x, e := Parse(Text(s)); x != s || e != api.OK {
			t.Errorf("Parse(Text(%#x)) = %#x, %v", s, x, e)
		}
	}
}

func TestHasOfSingle(t *testing.T) {
	l := append([]int{}, outside...)
	for i := -2; i <= 66; i++ {
		l = append(l, i)
	}
	for _, i := range l {
		for _, k := range l {
			want := i == k && 0 <= i && i <= 63
			if Has(Of(i), k) != want {
				t.Errorf("Has(Of(%d), %d) = %v", i, k, !want)
			}
		}
	}
}

func TestCountAndFirstAgreeWithEach(t *testing.T) {
	for _, s := range samples() {
		n, first, some := 0, 0, false
		for i := range Each(s) {
			if n == 0 {
				first, some = i, true
			}
			n++
		}
		if Count(s) != n {
			t.Errorf("Count(%#x) = %d, but Each yields %d", s, Count(s), n)
		}
		if i, ok := First(s); i != first || ok != some {
			t.Errorf("First(%#x) = %d, %v, but Each yields %d, %v", s, i, ok, first, some)
		}
	}
}

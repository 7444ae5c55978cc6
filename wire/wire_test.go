package wire

import (
	"math"
	"math/rand"
	"slices"
	"strconv"
	"strings"
	"testing"

	"airtime/api"
)

// badSizes are sizes that no number has.
var badSizes = []int{0, 7, 8, -1, -6, 64, 256 + 1, 1<<32 + 1, math.MinInt, math.MaxInt}

// faults are all errors, with numbers that api gives no name.
var faults = []api.Errno{api.ErrShort, api.ErrLong, api.ErrForm, api.ErrRange, api.ErrSum, api.ErrFull, api.ErrNone, api.ErrTwice, api.ErrState, api.ErrRefuse, api.ErrKey, api.ErrOrder, api.ErrBusy, api.ErrLost, api.ErrSlots, -1, 99}

// done fails the test unless w has these octets, or this error.
func done(t *testing.T, w *Writer, want string, wantErr api.Errno) {
	t.Helper()
	if s, e := w.Done(); s != want || e != wantErr {
		t.Errorf("Done() = %x, %d, want %x, %d", s, e, want, wantErr)
	}
}

// holds fails the test unless r has this error and, if there is none, exactly these octets; it does not change r.
func holds(t *testing.T, r *Reader, want string, wantErr api.Errno) {
	t.Helper()
	if e := r.Err(); e != wantErr {
		t.Errorf("Err() = %d, want %d", e, wantErr)
	}
	end := wantErr
	if wantErr == api.OK && want != "" {
		end = api.ErrLong
	}
	if e := r.End(); e != end {
		t.Errorf("End() = %d, want %d", e, end)
	}
	if wantErr != api.OK {
		want = ""
	}
	if n := r.Left(); n != len(want) {
		t.Errorf("Left() = %d, want %d", n, len(want))
	}
	copied := *r
	if s := copied.Rest(); s != want {
		t.Errorf("Rest() = %x, want %x", s, want)
	}
}

// dead fails the test unless r returns only zero values and this error, whatever is called.
func dead(t *testing.T, r *Reader, want api.Errno) {
	t.Helper()
	for range 2 {
		for _, size := range append([]int{1, 2, 6}, badSizes...) {
			if n := r.Num(size); n != 0 {
				t.Errorf("Num(%d) = %d", size, n)
			}
		}
		for _, n := range []int{0, 1, 2, 100, -1, math.MinInt, math.MaxInt} {
			if s := r.Take(n); s != "" {
				t.Errorf("Take(%d) = %x", n, s)
			}
		}
		for _, e := range append([]api.Errno{api.OK}, faults...) {
			r.Fail(e)
		}
		if s := r.Rest(); s != "" {
			t.Errorf("Rest() = %x", s)
		}
		if n := r.Left(); n != 0 {
			t.Errorf("Left() = %d", n)
		}
		if e := r.Err(); e != want {
			t.Errorf("Err() = %d, want %d", e, want)
		}
		if e := r.End(); e != want {
			t.Errorf("End() = %d, want %d", e, want)
		}
	}
}

// P2.1

func TestNewReader(t *testing.T) {
	for _, s := range []string{"", "a", "\x00", "\x02\x01\x07", "\xff\xfe\x00é", strings.Repeat("abc", 1000)} {
		r := NewReader(s)
		if r == nil {
			t.Fatal("NewReader returned nil")
		}
		holds(t, r, s, api.OK)
	}
}

func TestReadersAreIndependent(t *testing.T) {
	a, b := NewReader("abc"), NewReader("abc")
	a.Take(2)
	b.Fail(api.ErrForm)
	holds(t, a, "c", api.OK)
	holds(t, NewReader("abc"), "abc", api.OK)
}

func TestZeroReader(t *testing.T) {
	var r Reader
	holds(t, &r, "", api.OK)
	if s := r.Take(0); s != "" || r.Err() != api.OK {
		t.Error("Take(0) of the zero Reader:", s, r.Err())
	}
	if n := r.Num(1); n != 0 {
		t.Error("Num(1) of the zero Reader:", n)
	}
	dead(t, &r, api.ErrShort)
}

// P2.2

func TestWriteNum(t *testing.T) {
	for _, c := range []struct {
		n, size int
		want    string
	}{
		{258, 2, "\x02\x01"},
		{0, 1, "\x00"},
		{0, 6, "\x00\x00\x00\x00\x00\x00"},
		{255, 1, "\xff"},
		{255, 2, "\xff\x00"},
		{256, 2, "\x00\x01"},
		{0x010203, 3, "\x03\x02\x01"},
		{0x01020304, 4, "\x04\x03\x02\x01"},
		{0xfffffffe, 4, "\xfe\xff\xff\xff"},
		{0x0102030405, 5, "\x05\x04\x03\x02\x01"},
		{0x010203040506, 6, "\x06\x05\x04\x03\x02\x01"},
		{1<<48 - 1, 6, "\xff\xff\xff\xff\xff\xff"},
		{1 << 47, 6, "\x00\x00\x00\x00\x00\x80"},
	} {
		var w Writer
		w.Num(c.n, c.size)
		done(t, &w, c.want, api.OK)
	}
}

func TestWriteNumOutOfRange(t *testing.T) {
	for size := 1; size <= 6; size++ {
		limit := 1 << (8 * size)
		for _, n := range []int{limit, limit + 1, limit * 256, -1, -limit, math.MinInt, math.MaxInt} {
			var w Writer
			w.Num(n, size)
			done(t, &w, "", api.ErrRange)
		}
		var w Writer
		w.Num(limit-1, size)
		done(t, &w, strings.Repeat("\xff", size), api.OK)
	}
	for _, size := range badSizes {
		for _, n := range []int{0, 1, -1, math.MinInt, math.MaxInt} {
			var w Writer
			w.Num(n, size)
			done(t, &w, "", api.ErrRange)
		}
	}
}

func TestWriteText(t *testing.T) {
	var w Writer
	w.Text("")
	done(t, &w, "", api.OK)
	w.Text("ab")
	w.Text("")
	w.Text("\x00\xff\xfe")
	w.Num(0x6463, 2)
	w.Text("é")
	done(t, &w, "ab\x00\xff\xfecdé", api.OK)
}

// TestWriteMuch checks that no length is a limit and that nothing is lost between the pieces.
func TestWriteMuch(t *testing.T) {
	r := rand.New(rand.NewSource(1))
	var w Writer
	var want []byte
	for range 3000 {
		if r.Intn(2) == 0 {
			n := r.Intn(1 << 16)
			w.Num(n, 2)
			want = append(want, byte(n), byte(n>>8))
			continue
		}
		b := make([]byte, r.Intn(150))
		r.Read(b)
		w.Text(string(b))
		want = append(want, b...)
	}
	done(t, &w, string(want), api.OK)
}

func TestWriteManyOctets(t *testing.T) {
	var w Writer
	const n = 1 << 20
	for i := range n {
		w.Num(i&255, 1)
	}
	s, e := w.Done()
	if len(s) != n || e != api.OK {
		t.Fatal("length", len(s), "error", e)
	}
	for i := range n {
		if s[i] != byte(i) {
			t.Fatal("octet", i, "is", s[i])
		}
	}
}

func TestCopiedWriters(t *testing.T) {
	for _, start := range []int{0, 1, 63, 64, 65, 1000} {
		var a Writer
		text := strings.Repeat("x", start)
		for range start {
			a.Text("x")
		}
		b := a
		a.Text("left")
		b.Text("right")
		done(t, &a, text+"left", api.OK)
		done(t, &b, text+"right", api.OK)
	}
}

func TestNilWriter(t *testing.T) {
	var w *Writer
	w.Num(1, 1)
	w.Num(-1, 99)
	w.Text("a")
	done(t, w, "", api.ErrState)
	w.Text("")
	done(t, w, "", api.ErrState)
}

// P2.3

func TestDoneAgain(t *testing.T) {
	var w Writer
	done(t, &w, "", api.OK)
	w.Text("a")
	done(t, &w, "a", api.OK)
	done(t, &w, "a", api.OK)
	w.Num(258, 2)
	done(t, &w, "a\x02\x01", api.OK)
	w.Text(strings.Repeat("b", 200))
	done(t, &w, "a\x02\x01"+strings.Repeat("b", 200), api.OK)
	w.Num(256, 1)
	done(t, &w, "", api.ErrRange)
	done(t, &w, "", api.ErrRange)
}

func TestDoneKeepsEarlierResults(t *testing.T) {
	var w Writer
	w.Text("abc")
	s, _ := w.Done()
	w.Text("def")
	w.Done()
	if s != "abc" {
		t.Error("an earlier result became", s)
	}
}

func TestWriteAfterError(t *testing.T) {
	for _, bad := range [][2]int{{256, 1}, {-1, 1}, {0, 0}, {0, 7}, {1, math.MinInt}, {1 << 48, 6}} {
		var w Writer
		w.Text("before")
		w.Num(bad[0], bad[1])
		done(t, &w, "", api.ErrRange)
		w.Text("after")
		w.Num(1, 1)
		w.Num(-1, 9)
		done(t, &w, "", api.ErrRange)
	}
}

// P2.4

func TestReadNum(t *testing.T) {
	s := "\x06\x05\x04\x03\x02\x01tail"
	for size, want := range map[int]int{1: 6, 2: 0x0506, 3: 0x040506, 4: 0x03040506, 5: 0x0203040506, 6: 0x010203040506} {
		r := NewReader(s)
		if n := r.Num(size); n != want {
			t.Errorf("Num(%d) = %#x, want %#x", size, n, want)
		}
		holds(t, r, s[size:], api.OK)
	}
	for size := 1; size <= 6; size++ {
		r := NewReader(strings.Repeat("\xff", size))
		if n := r.Num(size); n != 1<<(8*size)-1 {
			t.Errorf("Num(%d) of the greatest number = %#x", size, n)
		}
		holds(t, r, "", api.OK)
	}
	r := NewReader("\x00\x00\x01\x00")
	if a, b := r.Num(2), r.Num(2); a != 0 || b != 1 {
		t.Error("two numbers:", a, b)
	}
}

func TestReadNumTooShort(t *testing.T) {
	for size := 1; size <= 6; size++ {
		for left := range size {
			r := NewReader("abcdef"[:left])
			if n := r.Num(size); n != 0 {
				t.Errorf("Num(%d) of %d octets = %d", size, left, n)
			}
			dead(t, r, api.ErrShort)
		}
	}
}

func TestReadNumBadSize(t *testing.T) {
	for _, size := range badSizes {
		for _, s := range []string{"", "abc", strings.Repeat("a", 300)} {
			r := NewReader(s)
			if n := r.Num(size); n != 0 {
				t.Errorf("Num(%d) = %d", size, n)
			}
			dead(t, r, api.ErrRange)
		}
	}
}

// P2.5

func TestTake(t *testing.T) {
	for n := range 6 {
		r := NewReader("\x00bcd\xff")
		if s := r.Take(n); s != "\x00bcd\xff"[:n] {
			t.Errorf("Take(%d) = %x", n, s)
		}
		holds(t, r, "\x00bcd\xff"[n:], api.OK)
	}
	r := NewReader("abcdef")
	if a, b, c, d := r.Take(1), r.Take(2), r.Take(0), r.Take(3); a != "a" || b != "bc" || c != "" || d != "def" {
		t.Error("in turn:", a, b, c, d)
	}
	holds(t, r, "", api.OK)
	if s := r.Take(0); s != "" {
		t.Error("Take(0) at the end:", s)
	}
	holds(t, r, "", api.OK)
}

func TestTakeErrors(t *testing.T) {
	for _, s := range []string{"", "a", "abcdef"} {
		for _, n := range []int{-1, -6, math.MinInt} {
			r := NewReader(s)
			if x := r.Take(n); x != "" {
				t.Errorf("Take(%d) = %x", n, x)
			}
			dead(t, r, api.ErrRange)
		}
		for _, n := range []int{len(s) + 1, len(s) + 2, 1 << 32, math.MaxInt} {
			r := NewReader(s)
			if x := r.Take(n); x != "" {
				t.Errorf("Take(%d) = %x", n, x)
			}
			dead(t, r, api.ErrShort)
		}
	}
}

func TestRest(t *testing.T) {
	r := NewReader("\x00bc\xff")
	r.Num(1)
	if s := r.Rest(); s != "bc\xff" {
		t.Errorf("Rest() = %x", s)
	}
	holds(t, r, "", api.OK)
	if s := r.Rest(); s != "" {
		t.Errorf("Rest() after Rest() = %x", s)
	}
	holds(t, r, "", api.OK)
}

// P2.6

func TestLeft(t *testing.T) {
	r := NewReader("abcdef")
	for i, f := range []func(){func() {}, func() { r.Num(1) }, func() { r.Take(2) }, func() { r.Take(0) }, func() { r.Num(3) }} {
		f()
		if want := []int{6, 5, 3, 3, 0}[i]; r.Left() != want {
			t.Errorf("step %d: Left() = %d, want %d", i, r.Left(), want)
		}
	}
	r = NewReader("abcdef")
	r.Fail(api.ErrForm)
	if r.Left() != 0 {
		t.Error("Left() after an error:", r.Left())
	}
}

// P2.7

func TestFail(t *testing.T) {
	for _, e := range faults {
		r := NewReader("abc")
		r.Fail(api.OK)
		holds(t, r, "abc", api.OK)
		r.Fail(e)
		dead(t, r, e)
		r = NewReader("")
		r.Fail(e)
		dead(t, r, e)
	}
}

func TestFailAfterError(t *testing.T) {
	r := NewReader("abc")
	r.Num(4)
	r.Fail(api.ErrForm)
	holds(t, r, "", api.ErrShort)
	r.Fail(api.OK)
	dead(t, r, api.ErrShort)
}

// P2.8

func TestEnd(t *testing.T) {
	r := NewReader("\x02\x01\x07")
	if n := r.Num(2); n != 258 || r.Left() != 1 || r.End() != api.ErrLong {
		t.Error("the example of the chapter:", n, r.Left(), r.End())
	}
	if r.Err() != api.OK || r.End() != api.ErrLong || r.Num(1) != 7 {
		t.Error("End recorded something")
	}
	if r.End() != api.OK || r.Err() != api.OK {
		t.Error("at the end:", r.End(), r.Err())
	}
}

func TestNilReader(t *testing.T) {
	var r *Reader
	dead(t, r, api.ErrState)
}

// P2.9

// step is a call of a Writer and the same call of a Reader.
type step struct {
	n, size int // a number if size is not 0
	text    string
}

// steps returns a sequence of valid calls, which may be empty.
func steps(r *rand.Rand) []step {
	l := make([]step, r.Intn(40))
	for i := range l {
		if size := r.Intn(7); size > 0 {
			l[i] = step{n: r.Intn(1<<(8*size)) >> r.Intn(8*size), size: size}
			continue
		}
		b := make([]byte, r.Intn(100))
		r.Read(b)
		l[i].text = string(b)
	}
	return l
}

func (c step) write(w *Writer) {
	if c.size > 0 {
		w.Num(c.n, c.size)
		return
	}
	w.Text(c.text)
}

func (c step) read(r *Reader) step {
	if c.size > 0 {
		return step{n: r.Num(c.size), size: c.size}
	}
	return step{text: r.Take(len(c.text))}
}

func TestWhatIsWrittenIsRead(t *testing.T) {
	random := rand.New(rand.NewSource(2))
	for range 500 {
		l := steps(random)
		var w Writer
		for _, c := range l {
			c.write(&w)
		}
		s, e := w.Done()
		if e != api.OK {
			t.Fatal("Done:", e)
		}
		r := NewReader(s)
		var got []step
		for _, c := range l {
			got = append(got, c.read(r))
		}
		if !slices.Equal(got, l) || r.Left() != 0 || r.End() != api.OK {
			t.Fatalf("wrote %v, read %v, %d left, error %d", l, got, r.Left(), r.End())
		}
	}
}

// P2.10

// model is a Reader as the promises describe it.
type model struct {
	left string
	e    api.Errno
}

func (m *model) take(n int, bad bool) string {
	switch {
	case m.e != api.OK:
	case bad:
		m.e = api.ErrRange
	case n > len(m.left):
		m.e = api.ErrShort
	default:
		s := m.left[:n]
		m.left = m.left[n:]
		return s
	}
	return ""
}

// call calls one method of both; it returns what both returned and which call it was.
func call(r *Reader, m *model, random *rand.Rand) (got, want, what string) {
	n := random.Intn(9) - random.Intn(2)
	switch random.Intn(12) {
	case 0:
		e := append(faults, api.OK)[random.Intn(len(faults)+1)]
		r.Fail(e)
		if m.e == api.OK {
			m.e = e
		}
		return "", "", "Fail(" + strconv.Itoa(int(e)) + ")"
	case 1:
		return r.Rest(), m.take(len(m.left), false), "Rest()"
	case 2, 3, 4, 5:
		return r.Take(n), m.take(n, n < 0), "Take(" + strconv.Itoa(n) + ")"
	}
	number := 0
	for i, b := range []byte(m.take(n, n < 1 || n > 6)) {
		number += int(b) * int(math.Pow(256, float64(i)))
	}
	return strconv.Itoa(r.Num(n)), strconv.Itoa(number), "Num(" + strconv.Itoa(n) + ")"
}

func TestSequencesOfReads(t *testing.T) {
	random := rand.New(rand.NewSource(3))
	for range 3000 {
		b := make([]byte, random.Intn(60))
		random.Read(b)
		r, m := NewReader(string(b)), &model{left: string(b)}
		calls := []string{}
		for range 20 {
			got, want, what := call(r, m, random)
			calls = append(calls, what)
			if got != want {
				t.Fatalf("%x: %v returned %x, want %x", b, calls, got, want)
			}
			holds(t, r, m.left, m.e)
			if t.Failed() {
				t.Fatalf("%x: %v", b, calls)
			}
		}
		if m.e != api.OK {
			dead(t, r, m.e)
		}
	}
}

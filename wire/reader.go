package wire

import (
	"airtime/api"
)

// Reader: reads octets from left to right.
type Reader struct {
	fault
	octets string // those that are left
}

// NewReader returns a Reader at the beginning of s.
func NewReader(s string) *Reader {
	return &Reader{octets: s}
}

// Num returns the number in the next size octets.
func (r *Reader) Num(size int) int {
	if r == nil || !r.sound() || !r.allows(size) {
		return 0
	}
	octets := r.next(size)
	n := 0
	for i := range len(octets) {
		n |= int(octets[i]) << (8 * i)
	}
	return n
}

// Take returns the next n octets.
func (r *Reader) Take(n int) string {
	if r == nil || !r.sound() {
		return ""
	}
	if n < 0 {
		r.record(api.ErrRange)
		return ""
	}
	return r.next(n)
}

// next removes n octets, or records ErrShort and returns none; n is not negative, and no error is recorded.
func (r *Reader) next(n int) string {
	if n > len(r.octets) {
		r.record(api.ErrShort)
		return ""
	}
	s := r.octets[:n]
	r.octets = r.octets[n:]
	return s
}

// Left returns the number of octets that are left.
func (r *Reader) Left() int {
	if r == nil || !r.sound() {
		return 0
	}
	return len(r.octets)
}

// Rest returns all octets that are left.
func (r *Reader) Rest() string {
	return r.Take(r.Left())
}

// Fail records an error if there is none yet.
func (r *Reader) Fail(e api.Errno) {
	if r == nil {
		return
	}
	r.record(e)
}

// Err returns the first error.
func (r *Reader) Err() api.Errno {
	if r == nil {
		return api.ErrState
	}
	return r.first
}

// End returns the first error, or ErrLong if octets are left.
func (r *Reader) End() api.Errno {
	if r.Left() > 0 {
		return api.ErrLong
	}
	return r.Err()
}

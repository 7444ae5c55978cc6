package wire

import (
	"airtime/api"
)

// pieceSize is the length from which on the tail of a Writer becomes a piece, so that a short text is never appended to a long one.
const pieceSize = 64

// piece is a run of octets with all that precede it. It never changes: a copy of a Writer is independent of the original, which it would not be if both appended to one slice.
type piece struct {
	before *piece
	octets string
}

// Writer: collects octets; its zero value is empty.
type Writer struct {
	fault
	before *piece
	tail   string // what follows before
}

// Num appends n in size octets, least significant first.
func (w *Writer) Num(n, size int) {
	if w == nil || !w.sound() || !w.allows(size) {
		return
	}
	if n < 0 || n>>(8*size) != 0 {
		w.record(api.ErrRange)
		return
	}
	var octets [maxSize]byte
	for i := range size {
		octets[i] = byte(n >> (8 * i))
	}
	w.add(string(octets[:size]))
}

// Text appends the octets of s.
func (w *Writer) Text(s string) {
	if w == nil || !w.sound() {
		return
	}
	w.add(s)
}

// add appends s to the tail.
func (w *Writer) add(s string) {
	w.tail += s
	if len(w.tail) >= pieceSize {
		w.before = &piece{w.before, w.tail}
		w.tail = ""
	}
}

// Done returns all octets, or none and the first error.
func (w *Writer) Done() (string, api.Errno) {
	if w == nil {
		return "", api.ErrState
	}
	if !w.sound() {
		return "", w.first
	}
	size := len(w.tail)
	for p := w.before; p != nil; p = p.before {
		size += len(p.octets)
	}
	octets := make([]byte, size)
	size -= copy(octets[size-len(w.tail):], w.tail)
	for p := w.before; p != nil; p = p.before {
		size -= len(p.octets)
		copy(octets[size:], p.octets)
	}
	return string(octets), api.OK
}

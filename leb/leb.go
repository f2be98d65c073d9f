// Package leb is layer 1: numbers and bytes; see shared/doc/01-leb.md.
package leb

import (
	"bytes"
	"iter"

	"marshes/api"
)

// A byte of a number has seven of its bits, and one that says that another byte follows.
const (
	bits   = 7
	follow = 1 << bits
)

// Nine bytes hold 63 bits of a number: the tenth one has the one that is left of 64, and none may follow.
const (
	lastPlace = 9
	lastMost  = 1
)

// bytesOf tells a number's bytes.
func bytesOf(n uint64) iter.Seq[byte] {
	return func(yield func(byte) bool) {
		left := n
		for ; left >= follow; left >>= bits {
			if !yield(byte(left%follow) + follow) {
				return
			}
		}
		yield(byte(left))
	}
}

// Size is how many bytes a number has.
func Size(n uint64) int {
	size := 0
	for range bytesOf(n) {
		size++
	}
	return size
}

// Sink has bytes that were written.
type Sink struct{ written []byte }

// Number writes a number.
func (s *Sink) Number(n uint64) *Sink {
	if s == nil {
		return nil
	}
	for b := range bytesOf(n) {
		s.written = append(s.written, b)
	}
	return s
}

// Bytes writes bytes with their length.
func (s *Sink) Bytes(b []byte) *Sink {
	return s.Number(uint64(len(b))).Raw(b)
}

// Raw writes bytes.
func (s *Sink) Raw(b []byte) *Sink {
	if s == nil {
		return nil
	}
	s.written = append(s.written, b...)
	return s
}

// All is what was written.
func (s *Sink) All() []byte {
	if s == nil {
		return nil
	}
	return bytes.Clone(s.written)
}

// Source has bytes that are left.
type Source struct{ left []byte }

// From reads bytes.
func From(b []byte) *Source {
	return &Source{left: bytes.Clone(b)}
}

// Number reads a number.
func (s *Source) Number(most uint64) (uint64, api.Errno) {
	return reading(s, func() (uint64, api.Errno) { return s.number(most) })
}

// Bytes reads bytes with their length.
func (s *Source) Bytes(most int) ([]byte, api.Errno) {
	return reading(s, func() ([]byte, api.Errno) {
		n, e := s.number(uint64(max(most, 0)))
		if e != api.OK {
			return nil, e
		}
		return s.raw(int(n))
	})
}

// Raw reads bytes.
func (s *Source) Raw(n int) ([]byte, api.Errno) {
	return reading(s, func() ([]byte, api.Errno) { return s.raw(n) })
}

// Left is how many are left.
func (s *Source) Left() int {
	if s == nil {
		return 0
	}
	return len(s.left)
}

// End says whether any are left.
func (s *Source) End() api.Errno {
	if s == nil {
		return api.ErrNil
	}
	if len(s.left) > 0 {
		return api.ErrTail
	}
	return api.OK
}

// reading is what all reads share: there has to be a Source, and with an error all is left as it was.
func reading[T any](s *Source, read func() (T, api.Errno)) (got T, e api.Errno) {
	if s == nil {
		return got, api.ErrNil
	}
	left := s.left
	defer func() {
		if e != api.OK {
			s.left = left
		}
	}()
	return read()
}

// number takes a number's bytes.
func (s *Source) number(most uint64) (uint64, api.Errno) {
	n, e := s.anyNumber()
	if e != api.OK {
		return 0, e
	}
	if n > most {
		return 0, api.ErrMost
	}
	return n, api.OK
}

// anyNumber takes bytes up to a number's last one, or to the one that spoils it.
func (s *Source) anyNumber() (uint64, api.Errno) {
	n, e := uint64(0), api.ErrShort
taking:
	for place, b := range s.taken() {
		n |= uint64(b%follow) << (bits * place)
		switch {
		case place == lastPlace && b > lastMost, place > 0 && b == 0:
			e = api.ErrForm
			break taking
		case b < follow:
			e = api.OK
			break taking
		}
	}
	return n, e
}

// raw takes the next bytes.
func (s *Source) raw(n int) ([]byte, api.Errno) {
	if n < 0 {
		return nil, api.ErrArg
	}
	if n > len(s.left) {
		return nil, api.ErrShort
	}
	b := bytes.Clone(s.left[:n])
	s.left = s.left[n:]
	return b, api.OK
}

// taken tells the bytes that are left, and their places; one that was told is left no more.
func (s *Source) taken() iter.Seq2[int, byte] {
	return func(yield func(int, byte) bool) {
		for place := 0; len(s.left) > 0; place++ {
			b := s.left[0]
			s.left = s.left[1:]
			if !yield(place, b) {
				return
			}
		}
	}
}

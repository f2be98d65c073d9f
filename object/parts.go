package object

import (
	"marshes/api"
	"marshes/leb"
)

// A writer writes the parts of an object.
type writer struct{ to leb.Sink }

// kind writes one byte: a kind is a number that has no more.
func (w *writer) kind(kind int) { w.to.Number(uint64(kind)) }

func (w *writer) bytes(b []byte) { w.to.Bytes(b) }

func (w *writer) text(s string) { w.to.Bytes([]byte(s)) }

func (w *writer) id(id api.ID) { w.to.Raw(id[:]) }

func (w *writer) entry(entry api.Entry) {
	w.text(entry.Name)
	w.kind(entry.Kind)
	w.id(entry.ID)
}

// writeSeveral writes how many parts there are, and each one.
func writeSeveral[T any](w *writer, parts []T, one func(part T)) {
	w.to.Number(uint64(len(parts)))
	for _, part := range parts {
		one(part)
	}
}

// A reader reads the parts of an object. Once one was wrong, those behind it are nothing, so that it is enough to ask at the end.
type reader struct {
	left  *leb.Source
	wrong bool
}

// kind reads one byte: no number that is as small has more.
func (r *reader) kind() int { return int(r.number(api.KindTag)) }

func (r *reader) number(most uint64) uint64 {
	return read(r, func() (uint64, api.Errno) { return r.left.Number(most) })
}

func (r *reader) bytes(most int) []byte {
	return read(r, func() ([]byte, api.Errno) { return r.left.Bytes(most) })
}

func (r *reader) text(most int) string { return string(r.bytes(most)) }

func (r *reader) id() api.ID {
	var id api.ID
	copy(id[:], read(r, func() ([]byte, api.Errno) { return r.left.Raw(api.IDSize) }))
	return id
}

func (r *reader) entry() api.Entry {
	var entry api.Entry
	entry.Name = r.text(api.MaxEntry)
	entry.Kind = r.kind()
	entry.ID = r.id()
	return entry
}

// readSeveral reads how many parts there are, and each one.
func readSeveral[T any](r *reader, most uint64, one func() T) []T {
	var parts []T
	for range r.number(most) {
		parts = append(parts, one())
	}
	return parts
}

// read is a part, or nothing, if this or an earlier one was wrong.
func read[T any](r *reader, one func() (T, api.Errno)) T {
	var nothing T
	if r.wrong {
		return nothing
	}
	part, e := one()
	if e != api.OK {
		r.wrong = true
		return nothing
	}
	return part
}

package object

import (
	"strings"

	"marshes/api"
	"marshes/hash"
)

// barred are the bytes that no entry's name has.
const barred = "/\x00"

// A body is what an object has of its kind.
type body interface {
	// may says whether an object may have it.
	may() bool
	// links are what it refers to.
	links() []api.Link
	// write writes its bytes, those behind the Kind.
	write(w *writer)
	// read reads them; what was read may be more than may be.
	read(r *reader)
	// object is the one that has it, and nothing else.
	object() api.Object
}

// bodyOf is what an object has that may be; nil, of any other one.
func bodyOf(o api.Object) body {
	b := ofKind(o)
	if b == nil || !b.may() || !Same(o, b.object()) { // what it has of other kinds is not in its body's object
		return nil
	}
	return b
}

// ofKind is what an object has of its kind; nil, if that is none.
func ofKind(o api.Object) body {
	switch o.Kind {
	case api.KindBlob:
		return &blob{o.Data}
	case api.KindTree:
		return &tree{o.Entries}
	case api.KindCommit:
		return &commit{o.Tree, o.Parents, o.Message}
	case api.KindTag:
		return &tag{o.Target, o.Message}
	}
	return nil
}

type blob struct{ data []byte }

func (b *blob) may() bool          { return len(b.data) <= api.MaxBlob }
func (b *blob) links() []api.Link  { return nil }
func (b *blob) write(w *writer)    { w.bytes(b.data) }
func (b *blob) read(r *reader)     { b.data = r.bytes(api.MaxBlob) }
func (b *blob) object() api.Object { return api.Object{Kind: api.KindBlob, Data: b.data} }

type tree struct{ entries []api.Entry }

func (t *tree) may() bool {
	if len(t.entries) > api.MaxEntries {
		return false
	}
	for i, entry := range t.entries {
		if !entryMay(entry) || i > 0 && t.entries[i-1].Name >= entry.Name {
			return false
		}
	}
	return true
}

func (t *tree) links() []api.Link {
	var l []api.Link
	for _, entry := range t.entries {
		l = append(l, api.Link{Kind: entry.Kind, ID: entry.ID})
	}
	return l
}

func (t *tree) write(w *writer)    { writeSeveral(w, t.entries, w.entry) }
func (t *tree) read(r *reader)     { t.entries = readSeveral(r, api.MaxEntries, r.entry) }
func (t *tree) object() api.Object { return api.Object{Kind: api.KindTree, Entries: t.entries} }

type commit struct {
	tree    api.ID
	parents []api.ID
	message string
}

func (c *commit) may() bool {
	return len(c.parents) <= api.MaxParents && len(hash.Set(c.parents...)) == len(c.parents) && messageMay(c.message)
}

func (c *commit) links() []api.Link {
	l := []api.Link{{Kind: api.KindTree, ID: c.tree}}
	for _, parent := range c.parents {
		l = append(l, api.Link{Kind: api.KindCommit, ID: parent})
	}
	return l
}

func (c *commit) write(w *writer) {
	w.id(c.tree)
	writeSeveral(w, c.parents, w.id)
	w.text(c.message)
}

func (c *commit) read(r *reader) {
	c.tree = r.id()
	c.parents = readSeveral(r, api.MaxParents, r.id)
	c.message = r.text(api.MaxMessage)
}

func (c *commit) object() api.Object {
	return api.Object{Kind: api.KindCommit, Tree: c.tree, Parents: c.parents, Message: c.message}
}

type tag struct {
	target  api.Link
	message string
}

func (t *tag) may() bool {
	return t.target.Kind >= api.KindBlob && t.target.Kind <= api.KindTag && messageMay(t.message)
}

func (t *tag) links() []api.Link { return []api.Link{t.target} }

func (t *tag) write(w *writer) {
	w.kind(t.target.Kind)
	w.id(t.target.ID)
	w.text(t.message)
}

func (t *tag) read(r *reader) {
	t.target.Kind = r.kind()
	t.target.ID = r.id()
	t.message = r.text(api.MaxMessage)
}

func (t *tag) object() api.Object {
	return api.Object{Kind: api.KindTag, Target: t.target, Message: t.message}
}

// entryMay says whether a tree may have an entry.
func entryMay(entry api.Entry) bool {
	if entry.Kind != api.KindBlob && entry.Kind != api.KindTree {
		return false
	}
	return entry.Name != "" && len(entry.Name) <= api.MaxEntry && !strings.ContainsAny(entry.Name, barred)
}

// messageMay says whether a commit, or a tag, may have a message.
func messageMay(message string) bool {
	return len(message) <= api.MaxMessage
}

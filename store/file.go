package store

import (
	"slices"
	"strings"

	"colporteur/api"
	"colporteur/guard"
	"colporteur/line"
	"colporteur/oid"
	"colporteur/pack"
	"colporteur/sha"
	"colporteur/vary"
)

// What the lines of a file begin with.
const (
	filteredWord = "filtered"
	refWord      = "ref"
	shallowWord  = "shallow"
	promisedWord = "promised"
)

const sumSize = 32 // bytes of the sum behind all

// put is h as a file: lines of all but the objects, packs of these, each behind
// its length, and a sum of all that.
func (h held) put() string {
	var s strings.Builder
	if h.filtered {
		putLine(&s, filteredWord)
	}
	for _, r := range h.refs {
		putLine(&s, refWord, oid.Hex(r.Id), r.Name)
	}
	for _, id := range h.shallow {
		putLine(&s, shallowWord, oid.Hex(id))
	}
	for _, id := range h.promised() {
		putLine(&s, promisedWord, oid.Hex(id))
	}
	s.WriteString(line.Flush())
	for ids := range slices.Chunk(h.ids(), api.MaxObjects) {
		putPack(&s, h.items(ids))
	}
	sum := sha.Sum([]byte(s.String()))
	s.Write(sum[:])
	return s.String()
}

// putLine writes a line of words.
func putLine(s *strings.Builder, words ...string) {
	text, _ := line.Put(strings.Join(words, " "))
	s.WriteString(text)
}

// putPack writes a pack of items that are few enough for one.
func putPack(s *strings.Builder, is []pack.Item) {
	text, _ := pack.Put(is...)
	size, _ := vary.Put(len(text))
	s.WriteString(size)
	s.WriteString(text)
}

// items are the objects of those names.
func (h held) items(ids []api.Id) []pack.Item {
	var is []pack.Item
	for _, id := range ids {
		is = append(is, h.things[id].Item)
	}
	return is
}

// get is what put tells as text; ErrSum, if it never does.
func get(text string) (held, api.Errno) {
	lines, n, e := line.All(text)
	if e != api.OK {
		return held{}, api.ErrSum
	}
	h := held{things: map[api.Id]thing{}}
	e = guard.Do(func() { h.readPacks(guard.New([]byte(text[n:]))) })
	if e != api.OK {
		return held{}, api.ErrSum
	}
	for _, s := range lines {
		h.readLine(s)
	}
	h.shallow = oid.Sort(h.shallow...)
	h.refs, e = byNames(h.refs)
	// What was read asks little of the text. Whatever put would not write just
	// so, the sum with it, is none of the program's making.
	if e != api.OK || h.put() != text {
		return held{}, api.ErrSum
	}
	return h, api.OK
}

// readPacks adds the objects of all packs up to the sum, or Fails.
func (h held) readPacks(r *guard.Reader) {
	for r.Left() > sumSize {
		os, e := pack.Objects(string(r.Bytes(vary.Get(r))))
		guard.Must(e == api.OK, e)
		for _, o := range os {
			h.add(o, false)
		}
	}
}

// readLine adds what a line says; of one that put never writes it may add
// anything.
func (h *held) readLine(s string) {
	word, rest, _ := strings.Cut(s, " ")
	digits, name, _ := strings.Cut(rest, " ")
	id, _ := oid.Get(digits)
	switch word {
	case filteredWord:
		// Whatever came promised is there still.
		h.filtered = len(h.things) > 0
	case refWord:
		h.refs = append(h.refs, api.Ref{Name: name, Id: id})
	case shallowWord:
		h.shallow = append(h.shallow, id)
	case promisedWord:
		h.promise(id)
	}
}

// promise marks the object of that name, if it is there, as one that came
// promised.
func (h *held) promise(id api.Id) {
	if t, ok := h.things[id]; ok {
		t.promised = true
		h.things[id] = t
		h.filtered = true
	}
}

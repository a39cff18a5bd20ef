package store

import (
	"maps"
	"slices"
	"strings"

	"colporteur/api"
	"colporteur/object"
	"colporteur/oid"
	"colporteur/pack"
	"colporteur/tree"
)

// held is all that a Store holds. Once made it is never changed, only another
// one made of it, so that what can't be Installed leaves what was.
type held struct {
	things   map[api.Id]thing
	shallow  []api.Id  // rising, each once
	refs     []api.Ref // by their Names
	filtered bool      // something came promised ever
}

// thing is an object as an item of a pack, in which there is no list that a
// caller could write into.
type thing struct {
	pack.Item
	promised bool
}

// object is the object that t is.
func (t thing) object() api.Object {
	o, _ := object.Get(t.Kind, t.Body)
	return o
}

// with is what is held behind an Install on h; or what is wrong with that.
func (h held) with(os []api.Object, promised bool, shallow []api.Id, refs []api.Ref) (held, api.Errno) {
	if len(os) > api.MaxObjects {
		return held{}, api.ErrLimit
	}
	next := held{things: map[api.Id]thing{}, filtered: h.filtered || promised && len(os) > 0}
	maps.Copy(next.things, h.things)
	for _, o := range os {
		if !next.add(o, promised) {
			return held{}, api.ErrForm
		}
	}
	var e api.Errno
	next.refs, e = byNames(refs)
	if e != api.OK {
		return held{}, e
	}
	next.shallow = oid.Sort(shallow...)
	return next, api.OK
}

// add adds o, while h is made; false, if o may not be.
func (h held) add(o api.Object, promised bool) bool {
	body, ok := object.Put(o)
	if !ok {
		return false
	}
	id := oid.Of(o.Kind, body)
	if was, there := h.things[id]; there {
		// What came unpromised once has all that it leads to.
		promised = promised && was.promised
	}
	h.things[id] = thing{pack.Item{Kind: o.Kind, Body: body}, promised}
	return true
}

// byNames is refs by rising Names; or what is wrong with them.
func byNames(refs []api.Ref) ([]api.Ref, api.Errno) {
	sorted := slices.Clone(refs)
	slices.SortFunc(sorted, func(a, b api.Ref) int { return strings.Compare(a.Name, b.Name) })
	for at, r := range sorted {
		if !tree.Name(r.Name) || at > 0 && sorted[at-1].Name == r.Name {
			return nil, api.ErrForm
		}
		// A copy: a Name that is a part of a long text does not hold all of it.
		sorted[at].Name = strings.Clone(r.Name)
	}
	if len(sorted) > api.MaxRefs {
		return nil, api.ErrLimit
	}
	return sorted, api.OK
}

// ids are the names of all objects, rising.
func (h held) ids() []api.Id { return oid.Sort(slices.Collect(maps.Keys(h.things))...) }

// promised are the names of those that came promised, rising.
func (h held) promised() []api.Id {
	var ids []api.Id
	for _, id := range h.ids() {
		if h.things[id].promised {
			ids = append(ids, id)
		}
	}
	return ids
}

// state is h as a caller's own.
func (h held) state() State {
	x := State{Promised: h.promised(), Shallow: slices.Clone(h.shallow), Refs: slices.Clone(h.refs), Filtered: h.filtered}
	for _, id := range h.ids() {
		x.Objects = append(x.Objects, h.things[id].object())
	}
	return x
}

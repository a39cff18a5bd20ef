package thin

import (
	"colporteur/api"
	"colporteur/delta"
	"colporteur/object"
	"colporteur/oid"
	"colporteur/pack"
	"colporteur/vary"
)

// Thin is a pack of os, in their order, of which some are deltas of others or
// of what is held; "", false if one of them may not be, or there are too many.
func Thin(os []api.Object, held []api.Object) (string, bool) {
	if len(os) > api.MaxObjects {
		return "", false
	}
	texts := textsOf(os)
	if len(texts) < len(os) {
		return "", false
	}
	w := writer{held: textsOf(held)}
	for _, t := range texts {
		w.write(t)
	}
	return pack.Put(w.items...)
}

// text is what encodes an object of that kind.
type text struct {
	kind int
	body string
}

// textsOf are those of os that may be, in order.
func textsOf(os []api.Object) []text {
	var texts []text
	for _, o := range os {
		if body, ok := object.Put(o); ok {
			texts = append(texts, text{o.Kind, body})
		}
	}
	return texts
}

// writer writes items, each one as short as it finds a way to.
type writer struct {
	held   []text
	items  []pack.Item
	whole  []text // the items that are no deltas
	places []int  // where these stand among items
}

// write writes t as an item. Only what is whole or held is a delta's base, so
// none is made in a round above the first.
func (w *writer) write(t text) {
	at := len(w.items)
	i := pack.Item{Kind: t.kind, Body: t.body}
	if n, ok := nearest(t, w.whole); ok {
		i = shorter(i, pack.Item{Kind: kindByBack, Back: at - w.places[n], Body: delta.Make(w.whole[n].body, t.body)})
	}
	if n, ok := nearest(t, w.held); ok {
		base := w.held[n]
		i = shorter(i, pack.Item{Kind: kindByName, Base: oid.Of(base.kind, base.body), Body: delta.Make(base.body, t.body)})
	}
	if i.Kind == t.kind {
		w.whole = append(w.whole, t)
		w.places = append(w.places, at)
	}
	w.items = append(w.items, i)
}

// nearest tells which of bases has most in common with t; false if none has
// anything. To make a delta of each of them would be long work.
func nearest(t text, bases []text) (int, bool) {
	found, most := 0, 0
	for n, b := range bases {
		// A delta makes what is of its base's kind.
		if b.kind != t.kind {
			continue
		}
		if common := alike(b.body, t.body); common > most {
			found, most = n, common
		}
	}
	return found, most > 0
}

// alike is how many bytes a and b have in common at their beginnings, and then
// at their ends.
func alike(a, b string) int {
	n, most := 0, min(len(a), len(b))
	for n < most && a[n] == b[n] {
		n++
	}
	for k := 1; n < most && a[len(a)-k] == b[len(b)-k]; k++ {
		n++
	}
	return n
}

// shorter is the one of a and b that takes fewer bytes; a, if both take as many.
func shorter(a, b pack.Item) pack.Item {
	if size(b) < size(a) {
		return b
	}
	return a
}

// size is how many bytes i takes, but for its head, which only a longer body
// makes longer.
func size(i pack.Item) int {
	switch i.Kind {
	case kindByBack:
		back, _ := vary.Put(i.Back)
		return len(back) + len(i.Body)
	case kindByName:
		return len(i.Base) + len(i.Body)
	}
	return len(i.Body)
}

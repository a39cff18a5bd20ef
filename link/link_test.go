package link_test

import (
	"bytes"
	"crypto/sha256"
	"fmt"
	"maps"
	"math"
	"slices"
	"strings"
	"testing"

	"colporteur/api"
	"colporteur/link"
	"colporteur/object"
	"colporteur/store"
)

func blobOf(s string) api.Object { return api.Object{Kind: api.KBlob, Blob: s} }

func treeOf(es ...api.Entry) api.Object { return api.Object{Kind: api.KTree, Entries: es} }

func commitOf(c api.Commit) api.Object { return api.Object{Kind: api.KCommit, Commit: c} }

// name is the name of o, which may be, found anew.
func name(o api.Object) api.Id {
	body, ok := object.Put(o)
	if !ok {
		panic(fmt.Sprintf("no object: %v", o))
	}
	word := []string{api.KBlob: "blob", api.KTree: "tree", api.KCommit: "commit"}[o.Kind]
	return sha256.Sum256(fmt.Appendf(nil, "%s %d\x00%s", word, len(body), body))
}

// names are those of os, in their order.
func names(os ...api.Object) []api.Id {
	var found []api.Id
	for _, o := range os {
		found = append(found, name(o))
	}
	return found
}

func compare(a, b api.Id) int { return bytes.Compare(a[:], b[:]) }

// rising are ids in their order, each once.
func rising(ids []api.Id) []api.Id {
	once := map[api.Id]bool{}
	for _, id := range ids {
		once[id] = true
	}
	return slices.SortedFunc(maps.Keys(once), compare)
}

// wrong are objects that may not be, of which some link to what is not there.
func wrong() []api.Object {
	away := []api.Entry{{Name: "a", Id: api.Id{7}}}
	both := treeOf(away...)
	both.Blob = "b"
	return []api.Object{
		{}, {Kind: 4}, {Kind: -1}, {Kind: 1<<32 + 3}, {Kind: 4, Entries: away}, both, blobOf(strings.Repeat("b", 1001)),
		treeOf(api.Entry{}), treeOf(api.Entry{Name: "b"}, away[0]), treeOf(slices.Repeat(away, 21)...),
		commitOf(api.Commit{When: math.NaN()}), commitOf(api.Commit{When: math.Copysign(0, -1)}), commitOf(api.Commit{Parents: []api.Id{{7}, {7}}}), commitOf(api.Commit{Parents: []api.Id{{1}, {2}, {3}, {4}, {5}}}),
		commitOf(api.Commit{Note: strings.Repeat("n", 101)}), {Kind: api.KBlob, Entries: away}, {Kind: api.KBlob, Commit: api.Commit{When: math.Copysign(0, -1)}},
	}
}

// shelf has objects under labels, by which the tests speak of them. A label that
// stands for none is that of a name which no object has; "zero" is the zero Id.
type shelf map[string]api.Object

func (s shelf) id(label string) api.Id {
	if o, ok := s[label]; ok {
		return name(o)
	}
	if label == "zero" {
		return api.Id{}
	}
	return sha256.Sum256([]byte("no object, but " + label))
}

// ids are the names of those labels, in their order.
func (s shelf) ids(labels string) []api.Id {
	var found []api.Id
	for label := range strings.FieldsSeq(labels) {
		found = append(found, s.id(label))
	}
	return found
}

// objects are those of the labels, in their order.
func (s shelf) objects(labels string) []api.Object {
	var found []api.Object
	for label := range strings.FieldsSeq(labels) {
		o, ok := s[label]
		if !ok {
			panic("no object: " + label)
		}
		found = append(found, o)
	}
	return found
}

// labels are all of them, rising.
func (s shelf) labels() []string { return slices.Sorted(maps.Keys(s)) }

// but are all labels but those.
func (s shelf) but(labels string) string {
	out := strings.Fields(labels)
	return strings.Join(slices.DeleteFunc(s.labels(), func(l string) bool { return slices.Contains(out, l) }), " ")
}

// byId are labels by the rising names that they stand for.
func (s shelf) byId(labels string) []string {
	return slices.SortedFunc(strings.FieldsSeq(labels), func(a, b string) int { return compare(s.id(a), s.id(b)) })
}

// text is ids by their labels, in their order.
func (s shelf) text(ids ...api.Id) string {
	label := map[api.Id]string{}
	for _, l := range append(s.labels(), "zero", "gone", "lost", "away") {
		label[s.id(l)] = l
	}
	var found []string
	for _, id := range ids {
		text, ok := label[id]
		if !ok {
			text = fmt.Sprintf("%x", id[:4])
		}
		found = append(found, text)
	}
	return "[" + strings.Join(found, " ") + "]"
}

// put sets o under a label; it may be, and is another one than those there.
func (s shelf) put(label string, o api.Object) {
	for other, there := range s {
		if label == other || name(o) == name(there) {
			panic(label + " is " + other)
		}
	}
	s[label] = o
}

func (s shelf) blob(label string) { s.put(label, blobOf("blob "+label)) }

// tree sets a tree under a label, of entries as "name=label", or "name/=label"
// where the entry says that it is a tree's.
func (s shelf) tree(label, entries string) {
	var es []api.Entry
	for entry := range strings.FieldsSeq(entries) {
		name, to, _ := strings.Cut(entry, "=")
		name, isTree := strings.CutSuffix(name, "/")
		es = append(es, api.Entry{Name: name, Tree: isTree, Id: s.id(to)})
	}
	s.put(label, treeOf(es...))
}

// commit sets a commit of that tree and those parents under a label.
func (s shelf) commit(label, tree, parents string) {
	s.put(label, commitOf(api.Commit{Tree: s.id(tree), Parents: s.ids(parents), Note: label}))
}

// house has three commits, one with two parents, and trees in trees.
func house() shelf {
	s := shelf{}
	for _, label := range []string{"a", "b", "c"} {
		s.blob(label)
	}
	s.tree("empty", "")
	s.tree("cellar", "a=a c=c")
	s.tree("root", "b=b down/=cellar")
	s.tree("flat", "a=a b=b none/=empty")
	s.commit("first", "root", "")
	s.commit("second", "flat", "first")
	s.commit("third", "empty", "second first")
	return s
}

// words are a state by labels: refs as "name=label".
type words struct{ objects, promised, shallow, refs string }

// state is the state that w tells.
func (s shelf) state(w words) store.State {
	x := store.State{Objects: s.objects(w.objects), Promised: s.ids(w.promised), Shallow: s.ids(w.shallow)}
	for text := range strings.FieldsSeq(w.refs) {
		name, label, _ := strings.Cut(text, "=")
		x.Refs = append(x.Refs, api.Ref{Name: name, Id: s.id(label)})
	}
	return x
}

// turned is x with all its lists the other way round.
func turned(x store.State) store.State {
	y := cloned(x)
	slices.Reverse(y.Objects)
	slices.Reverse(y.Promised)
	slices.Reverse(y.Shallow)
	slices.Reverse(y.Refs)
	return y
}

// cloned is x with lists of its own (but those within objects).
func cloned(x store.State) store.State {
	x.Objects, x.Promised, x.Shallow, x.Refs = slices.Clone(x.Objects), slices.Clone(x.Promised), slices.Clone(x.Shallow), slices.Clone(x.Refs)
	return x
}

// joined is what stands in x, and then what stands in y.
func joined(x, y store.State) store.State {
	return store.State{
		Objects: slices.Concat(x.Objects, y.Objects), Promised: slices.Concat(x.Promised, y.Promised),
		Shallow: slices.Concat(x.Shallow, y.Shallow), Refs: slices.Concat(x.Refs, y.Refs),
	}
}

// filled is x with empty lists for nil ones.
func filled(x store.State) store.State {
	return store.State{Objects: append([]api.Object{}, x.Objects...), Promised: append([]api.Id{}, x.Promised...), Shallow: append([]api.Id{}, x.Shallow...), Refs: append([]api.Ref{}, x.Refs...)}
}

// alike are states of which the same is to be told as of x: no order of its
// lists, and nothing that stands there twice, counts. (Its refs have different
// Names, or one Id.)
func alike(x store.State) map[string]store.State {
	filtered := cloned(x)
	filtered.Filtered = true
	return map[string]store.State{
		"as it stands": x, "turned": turned(x), "twice": joined(x, x), "to and fro": joined(turned(x), x),
		"with empty lists": filled(x), "Filtered": filtered,
	}
}

// tells asks what Check and Away tell of x.
func (s shelf) tells(t *testing.T, what string, x store.State, e api.Errno, at api.Id, away []api.Id) {
	t.Helper()
	if gotErr, got := link.Check(x); gotErr != e || got != at {
		t.Errorf("P18.1: %s: Check %d, %s, not %d, %s", what, gotErr, s.text(got), e, s.text(at))
	}
	if got := link.Away(x); !slices.Equal(got, away) {
		t.Errorf("P18.1: %s: Away %s, not %s", what, s.text(got...), s.text(away...))
	}
}

// whole asks that Check finds nothing wrong, and that Away is those labels.
func (s shelf) whole(t *testing.T, w words, away string) {
	t.Helper()
	for what, x := range alike(s.state(w)) {
		s.tells(t, fmt.Sprintf("%+v, %s", w, what), x, api.OK, api.Id{}, rising(s.ids(away)))
	}
}

// lacks asks that Check tells ErrLink and that label, and that Away is others.
func (s shelf) lacks(t *testing.T, w words, label, away string) {
	t.Helper()
	for what, x := range alike(s.state(w)) {
		s.tells(t, fmt.Sprintf("%+v, %s", w, what), x, api.ErrLink, s.id(label), rising(s.ids(away)))
	}
}

// coin throws numbers, the same ones each time.
type coin uint64

// below is one below n.
func (c *coin) below(n int) int {
	*c = *c*6364136223846793005 + 1442695040888963407
	return int(uint64(*c>>33) % uint64(n))
}

// one is one of list.
func one[E any](c *coin, list []E) E { return list[c.below(len(list))] }

// some are so many of list, one perhaps twice.
func some[E any](c *coin, list []E, n int) []E {
	var found []E
	for range n {
		found = append(found, one(c, list))
	}
	return found
}

// mixed is list in a thrown order.
func mixed[E any](c *coin, list []E) []E {
	found := slices.Clone(list)
	for at := range found {
		other := c.below(at + 1)
		found[at], found[other] = found[other], found[at]
	}
	return found
}

// roomy is a list with some room behind it.
func roomy[E any](list []E, rest ...E) []E { return append(slices.Clone(list), rest...)[:len(list)] }

// write writes over a list and its spare room.
func write[E any](list []E, with E) {
	list = list[:cap(list)]
	for i := range list {
		list[i] = with
	}
}

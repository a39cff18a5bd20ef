package filter_test

import (
	"bytes"
	"crypto/sha256"
	"fmt"
	"maps"
	"slices"
	"strconv"
	"strings"
	"testing"

	"colporteur/api"
	"colporteur/filter"
	"colporteur/object"
	"colporteur/walk"
)

// Filters of each Kind, but for the one of 0, which is zero.
func noBlobs() api.Filter { return api.Filter{Kind: 1} }

func shorter(limit float64) api.Filter { return api.Filter{Kind: 2, Limit: limit} }

func within(depth int) api.Filter { return api.Filter{Kind: 3, Depth: depth} }

func blobOf(s string) api.Object { return api.Object{Kind: api.KBlob, Blob: s} }

func treeOf(es ...api.Entry) api.Object { return api.Object{Kind: api.KTree, Entries: es} }

func commitOf(c api.Commit) api.Object { return api.Object{Kind: api.KCommit, Commit: c} }

// long is a text of so many bytes.
func long(size int) string { return strings.Repeat("b", size) }

// name is the name of o, which may be, found anew.
func name(o api.Object) api.Id {
	body, ok := object.Put(o)
	if !ok {
		panic(fmt.Sprintf("no object: %v", o))
	}
	word := []string{api.KBlob: "blob", api.KTree: "tree", api.KCommit: "commit"}[o.Kind]
	return sha256.Sum256(fmt.Appendf(nil, "%s %d\x00%s", word, len(body), body))
}

// rising are ids in their order, each once.
func rising(ids []api.Id) []api.Id {
	once := map[api.Id]bool{}
	for _, id := range ids {
		once[id] = true
	}
	return slices.SortedFunc(maps.Keys(once), func(a, b api.Id) int { return bytes.Compare(a[:], b[:]) })
}

// shelf has objects under labels, by which the tests speak of them. A label that
// stands for none is that of a name which no object has; "zero" is the zero Id.
type shelf map[string]api.Object

func (s shelf) id(label string) api.Id {
	if o, ok := s[label]; ok {
		return name(o)
	}
	if label == "zero" {
		return api.Id{}
	}
	return sha256.Sum256([]byte("no object, but " + label))
}

// ids are the names of those labels, in their order.
func (s shelf) ids(labels string) []api.Id {
	var found []api.Id
	for label := range strings.FieldsSeq(labels) {
		found = append(found, s.id(label))
	}
	return found
}

// graph has all objects of s, but those of the labels.
func (s shelf) graph(but string) *walk.Graph {
	g := walk.New()
	for label, o := range s {
		if !slices.Contains(strings.Fields(but), label) {
			g.Add(o)
		}
	}
	return g
}

// labels are all of them, rising.
func (s shelf) labels() []string { return slices.Sorted(maps.Keys(s)) }

// text is ids by their labels, in their order.
func (s shelf) text(ids []api.Id) string {
	label := map[api.Id]string{}
	for _, l := range append(s.labels(), "zero", "gone", "lost") {
		label[s.id(l)] = l
	}
	var found []string
	for _, id := range ids {
		text, ok := label[id]
		if !ok {
			text = fmt.Sprintf("%x", id[:4])
		}
		found = append(found, text)
	}
	return strings.Join(found, " ")
}

func (s shelf) says(ids []api.Id) string { return "[" + s.text(ids) + "]" }

// selects asks that Select of those labels is the names of others, rising.
func (s shelf) selects(t *testing.T, g *walk.Graph, commits string, f api.Filter, want string) {
	t.Helper()
	if got := filter.Select(g, s.ids(commits), f); !slices.Equal(got, rising(s.ids(want))) {
		t.Errorf("P17.1: Select of %s, %v: %s, not %s", commits, f, s.says(got), want)
	}
}

// put sets o under a label; it may be, and is another one than those there.
func (s shelf) put(label string, o api.Object) {
	for other, there := range s {
		if label == other || name(o) == name(there) {
			panic(label + " is " + other)
		}
	}
	s[label] = o
}

// blobs sets blobs, as "label:bytes".
func (s shelf) blobs(texts string) {
	for text := range strings.FieldsSeq(texts) {
		label, size, _ := strings.Cut(text, ":")
		n, err := strconv.Atoi(size)
		if err != nil {
			panic(text)
		}
		s.put(label, blobOf(long(n)))
	}
}

// tree sets a tree under a label, of entries as "name=label", or "name/=label"
// where the entry says that it is a tree's.
func (s shelf) tree(label, entries string) {
	var es []api.Entry
	for entry := range strings.FieldsSeq(entries) {
		name, to, _ := strings.Cut(entry, "=")
		name, isTree := strings.CutSuffix(name, "/")
		es = append(es, api.Entry{Name: name, Tree: isTree, Id: s.id(to)})
	}
	s.put(label, treeOf(es...))
}

// commit sets a commit of that tree and those parents under a label.
func (s shelf) commit(label, tree, parents string) {
	s.put(label, commitOf(api.Commit{Tree: s.id(tree), Parents: s.ids(parents), Note: label}))
}

// house has rooms within rooms: from root down a stands at 1 and 3, b at 2, c and
// d at 3, stairs at 1, cellar at 2.
func house() shelf {
	s := shelf{}
	s.blobs("a:0 b:10 c:100 d:1000 e:9")
	s.tree("empty", "")
	s.tree("cellar", "a=a c=c d=d")
	s.tree("stairs", "b=b cellar/=cellar")
	s.tree("root", "a=a down/=stairs")
	s.tree("flat", "cellar/=cellar e=e")
	s.commit("first", "root", "")
	s.commit("second", "flat", "first")
	s.commit("third", "empty", "second first")
	return s
}

// odd is a house with links that lead to what they should not.
func odd() shelf {
	s := house()
	s.tree("liar", "blob/=b tree=cellar")
	s.tree("links", "commit=first tree/=second")
	s.tree("holes", "e=e gone=gone lost/=lost zero/=zero")
	s.commit("ofLiar", "liar", "")
	s.commit("ofLinks", "links", "")
	s.commit("ofHoles", "holes", "gone")
	s.commit("ofNone", "gone", "first")
	s.commit("ofZero", "zero", "")
	s.commit("ofBlob", "b", "")
	s.commit("ofCommit", "second", "")
	s.commit("treeBehind", "empty", "root d")
	return s
}

// coin throws numbers, the same ones each time.
type coin uint64

// below is one below n.
func (c *coin) below(n int) int {
	*c = *c*6364136223846793005 + 1442695040888963407
	return int(uint64(*c>>33) % uint64(n))
}

// one is one of list.
func one[E any](c *coin, list []E) E { return list[c.below(len(list))] }

// roomy is a list with some room behind it.
func roomy[E any](list []E, rest ...E) []E { return append(slices.Clone(list), rest...)[:len(list)] }

// write writes over a list and its spare room.
func write[E any](list []E, with E) {
	list = list[:cap(list)]
	for i := range list {
		list[i] = with
	}
}

package depth_test

import (
	"bytes"
	"crypto/sha256"
	"fmt"
	"maps"
	"slices"
	"strconv"
	"strings"
	"testing"

	"colporteur/api"
	"colporteur/object"
	"colporteur/walk"
)

func commitOf(c api.Commit) api.Object { return api.Object{Kind: api.KCommit, Commit: c} }

// name is the name of o, which may be, found anew.
func name(o api.Object) api.Id {
	body, ok := object.Put(o)
	if !ok {
		panic(fmt.Sprintf("no object: %v", o))
	}
	word := []string{api.KBlob: "blob", api.KTree: "tree", api.KCommit: "commit"}[o.Kind]
	return sha256.Sum256(fmt.Appendf(nil, "%s %d\x00%s", word, len(body), body))
}

// rising are ids in their order, each once.
func rising(ids []api.Id) []api.Id {
	once := map[api.Id]bool{}
	for _, id := range ids {
		once[id] = true
	}
	return slices.SortedFunc(maps.Keys(once), func(a, b api.Id) int { return bytes.Compare(a[:], b[:]) })
}

// shelf has objects under labels, by which the tests speak of them. A label that
// stands for none is that of a name which no object has; "zero" is the zero Id.
type shelf map[string]api.Object

// shelfOf has a blob "blob", a tree "tree", and commits as "label@when:parents"
// (the parents by their labels, with commas between).
func shelfOf(commits string) shelf {
	s := shelf{"blob": {Kind: api.KBlob, Blob: "b"}}
	s["tree"] = api.Object{Kind: api.KTree, Entries: []api.Entry{{Name: "b", Id: s.id("blob")}}}
	for text := range strings.FieldsSeq(commits) {
		head, parents, _ := strings.Cut(text, ":")
		label, made, _ := strings.Cut(head, "@")
		when, err := strconv.ParseFloat(made, 64)
		if _, there := s[label]; there || err != nil {
			panic(text)
		}
		s[label] = commitOf(api.Commit{Tree: s.id("tree"), Parents: s.ids(strings.ReplaceAll(parents, ",", " ")), When: when, Note: label})
	}
	return s
}

func (s shelf) id(label string) api.Id {
	if o, ok := s[label]; ok {
		return name(o)
	}
	if label == "zero" {
		return api.Id{}
	}
	return sha256.Sum256([]byte("no object, but " + label))
}

// ids are the names of those labels, in their order.
func (s shelf) ids(labels string) []api.Id {
	var found []api.Id
	for label := range strings.FieldsSeq(labels) {
		found = append(found, s.id(label))
	}
	return found
}

// graph has all objects of s.
func (s shelf) graph() *walk.Graph { return walk.New(slices.Collect(maps.Values(s))...) }

// says is ids by their labels, in their order.
func (s shelf) says(ids []api.Id) string {
	label := map[api.Id]string{}
	for _, l := range append(slices.Collect(maps.Keys(s)), "zero", "gone", "lost", "away") {
		label[s.id(l)] = l
	}
	var found []string
	for _, id := range ids {
		text, ok := label[id]
		if !ok {
			text = fmt.Sprintf("%x", id[:4])
		}
		found = append(found, text)
	}
	return "[" + strings.Join(found, " ") + "]"
}

// rises asks that got is the names of those labels, rising.
func (s shelf) rises(t *testing.T, what string, got []api.Id, labels string) {
	t.Helper()
	if want := rising(s.ids(labels)); !slices.Equal(got, want) {
		t.Errorf("P16.1: %s: %s, not %s", what, s.says(got), s.says(want))
	}
}

// chain is a to h, each the next one's parent, made at 1 to 8.
const chain = "a@1 b@2:a c@3:b d@4:c e@5:d f@6:e g@7:f h@8:g"

// merge has a short line (root s tip) and a long one (root l1 l2 l3 tip), which
// meet at root, and what lies ahead of root and behind tip.
const merge = "old@1 root@2:old s@3:root l1@4:root l2@5:l1 l3@6:l2 tip@7:s,l3 top@8:tip"

// holes has commits with parents that are not there, or are no commits.
const holes = "r@1 half@2:r,gone lost1@3:lost ofBlob@4:r,blob ofTree@5:tree,r ofZero@6:zero m@7:half,lost1,ofBlob,ofTree n@8:m,ofZero"

// noGraphs are such as have nothing.
func noGraphs() map[string]*walk.Graph {
	return map[string]*walk.Graph{"nil": nil, "a zero Graph": {}, "New of nothing": walk.New()}
}

// coin throws numbers, the same ones each time.
type coin uint64

// below is one below n.
func (c *coin) below(n int) int {
	*c = *c*6364136223846793005 + 1442695040888963407
	return int(uint64(*c>>33) % uint64(n))
}

// one is one of list.
func one[E any](c *coin, list []E) E { return list[c.below(len(list))] }

// roomy is a list with some room behind it.
func roomy[E any](list []E, rest ...E) []E { return append(slices.Clone(list), rest...)[:len(list)] }

// write writes over a list and its spare room.
func write[E any](list []E, with E) {
	list = list[:cap(list)]
	for i := range list {
		list[i] = with
	}
}

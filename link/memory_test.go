package link_test

import (
	"fmt"
	"slices"
	"strings"
	"testing"

	"colporteur/api"
	"colporteur/link"
	"colporteur/store"
)

// full is all that stands in x, with the spare room of its lists.
func full(x store.State) string {
	var s strings.Builder
	for _, o := range x.Objects[:cap(x.Objects)] {
		fmt.Fprintf(&s, "%d %q %v %x %v\n", o.Kind, o.Blob, o.Entries[:cap(o.Entries)], o.Commit.Parents[:cap(o.Commit.Parents)], o.Commit)
	}
	fmt.Fprintf(&s, "%x\n%x\n%q\n", x.Promised[:cap(x.Promised)], x.Shallow[:cap(x.Shallow)], x.Refs[:cap(x.Refs)])
	fmt.Fprint(&s, len(x.Objects), len(x.Promised), len(x.Shallow), len(x.Refs), x.Filtered)
	return s.String()
}

// withRoom is x with room behind all of its lists, those in objects too.
func withRoom(x store.State) store.State {
	var os []api.Object
	for _, o := range x.Objects {
		o.Entries = roomy(o.Entries, api.Entry{Name: "rest", Id: api.Id{1}}, api.Entry{Name: "s"})
		o.Commit.Parents = roomy(o.Commit.Parents, api.Id{2}, api.Id{3})
		os = append(os, o)
	}
	x.Objects = roomy(os, blobOf("rest"), treeOf(api.Entry{Name: "a", Id: api.Id{4}}))
	x.Promised = roomy(x.Promised, api.Id{5}, api.Id{6})
	x.Shallow = roomy(x.Shallow, api.Id{7}, api.Id{8})
	x.Refs = roomy(x.Refs, api.Ref{Name: "0", Id: api.Id{9}}, api.Ref{Name: "zz"})
	return x
}

// spoil writes over all lists of x, those in objects too.
func spoil(x store.State) {
	for _, o := range x.Objects {
		write(o.Entries, api.Entry{Name: "spoilt"})
		write(o.Commit.Parents, api.Id{99})
	}
	write(x.Objects, blobOf("spoilt"))
	write(x.Promised, api.Id{99})
	write(x.Shallow, api.Id{99})
	write(x.Refs, api.Ref{Name: "spoilt"})
}

// handed are states with lists that do not rise, and of which different things
// are to be told.
func handed(s shelf) []store.State {
	var found []store.State
	for _, w := range []words{
		{}, {objects: s.but("")}, {objects: "third second first cellar root", promised: "third cellar root", shallow: "third first second", refs: "z=third b=first m=second"},
		{objects: "third first root b", promised: "third root third gone", shallow: "third lost first", refs: "z=first b=gone m=lost"},
		{objects: "flat root cellar flat", promised: "root flat cellar"}, {objects: "second third", promised: "third second", shallow: "third second third"},
	} {
		found = append(found, s.state(w), turned(s.state(w)))
	}
	wrong := s.state(words{objects: "root flat", promised: "root"})
	wrong.Objects = append(wrong.Objects, treeOf(api.Entry{Name: "b"}, api.Entry{Name: "a"}))
	return append(found, wrong)
}

// No argument is changed; what is told is the caller's own.
func TestMemory(t *testing.T) {
	s := house()
	for k, x := range handed(s) {
		for what, call := range map[string]func(store.State){"Check": func(x store.State) { link.Check(x) }, "Away": func(x store.State) { link.Away(x) }} {
			y := withRoom(x)
			was := full(y)
			call(y)
			if full(y) != was {
				t.Errorf("P0.3: %s changes state %d", what, k)
			}
		}
		y := withRoom(x)
		e, id := link.Check(y)
		away := link.Away(y)
		want := slices.Clone(away)
		spoil(y)
		if !slices.Equal(away, want) {
			t.Errorf("P0.3: state %d: Away answers with what it is handed", k)
		}
		again := link.Away(x)
		write(away, api.Id{98})
		if !slices.Equal(again, want) {
			t.Errorf("P0.3: state %d: answers share memory", k)
		}
		write(again, api.Id{97})
		s.tells(t, fmt.Sprintf("P0.5: state %d, asked again", k), x, e, id, want)
	}
}

// One list may be handed in as several.
func TestOneListAsSeveral(t *testing.T) {
	s := house()
	ids := roomy(s.ids("third second"), s.ids("a")...)
	x := store.State{Objects: s.objects("third second empty flat a b"), Promised: ids, Shallow: ids}
	was := full(x)
	s.tells(t, "one list as two", x, api.OK, api.Id{}, nil)
	x.Shallow = ids[1:]
	s.tells(t, "one list, and a part of it", x, api.OK, api.Id{}, s.ids("first"))
	x.Shallow, x.Promised = ids, ids[:1]
	s.tells(t, "a part of a list, and all of it", x, api.OK, api.Id{}, nil)
	x.Promised = ids
	if full(x) != was {
		t.Error("P0.3: one list as several is changed")
	}
}

func ExampleCheck() {
	blob := api.Object{Kind: api.KBlob, Blob: "hello\n"}
	tree := api.Object{Kind: api.KTree, Entries: []api.Entry{{Name: "readme", Id: name(blob)}}}
	old := api.Object{Kind: api.KCommit, Commit: api.Commit{Tree: name(tree), When: 1}}
	c := api.Object{Kind: api.KCommit, Commit: api.Commit{Tree: name(tree), Parents: names(old), When: 2}}
	x := store.State{Objects: []api.Object{tree, c}}
	e, id := link.Check(x)
	fmt.Println(e == api.ErrLink, id == name(blob) || id == name(old))
	x.Shallow = names(c)
	e, id = link.Check(x)
	fmt.Println(e == api.ErrLink, id == name(blob))
	x.Promised = names(tree)
	e, id = link.Check(x)
	fmt.Println(e == api.OK, id == api.Id{})
	away := link.Away(x)
	fmt.Println(len(away), away[0] == name(blob))
	// Output:
	// true true
	// true true
	// true true
	// 1 true
}

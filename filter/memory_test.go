package filter_test

import (
	"fmt"
	"slices"
	"testing"

	"colporteur/api"
	"colporteur/filter"
)

// No argument is changed or kept; what is told is the caller's own.
func TestMemory(t *testing.T) {
	s := odd()
	g := s.graph("")
	rest := s.ids("third first a gone second")
	for _, f := range []api.Filter{{}, noBlobs(), shorter(0), shorter(50), shorter(million), within(0), within(1), within(2), within(1000), {Kind: 4}, {Kind: -1}} {
		for _, labels := range []string{"", "first", "third second first", "first first", "second gone a zero root ofLinks ofBlob", "ofNone", "gone"} {
			handed := roomy(s.ids(labels), rest...)
			was := fmt.Sprintf("%x", handed[:cap(handed)])
			told := filter.Select(g, handed, f)
			if fmt.Sprintf("%x", handed[:cap(handed)]) != was {
				t.Fatalf("P0.3: Select of %s, %v changes what it is handed", labels, f)
			}
			want := slices.Clone(told)
			write(handed, api.Id{66})
			if !slices.Equal(told, want) {
				t.Fatalf("P0.3: Select of %s, %v answers with what it is handed", labels, f)
			}
			again := filter.Select(g, s.ids(labels), f)
			write(told, api.Id{67})
			if !slices.Equal(again, want) || !slices.Equal(filter.Select(g, s.ids(labels), f), want) {
				t.Fatalf("P0.3, P0.5: Select of %s, %v tells otherwise the second time", labels, f)
			}
		}
	}
}

// What Lets is handed stays as it is.
func TestLetsChangesNothing(t *testing.T) {
	for _, f := range append(right(), wrong()...) {
		tree := treeOf(roomy([]api.Entry{{Name: "b"}, {Name: "a"}}, api.Entry{Name: "rest"})...)
		commit := commitOf(api.Commit{Parents: roomy([]api.Id{{3}, {2}}, api.Id{1})})
		was := fmt.Sprint(tree.Entries[:cap(tree.Entries)], commit.Commit.Parents[:cap(commit.Commit.Parents)])
		filter.Lets(f, tree, 1)
		filter.Lets(f, commit, 1)
		if fmt.Sprint(tree.Entries[:cap(tree.Entries)], commit.Commit.Parents[:cap(commit.Commit.Parents)]) != was {
			t.Errorf("P0.3: Lets of %v changes what it is handed", f)
		}
	}
}

// What is asked changes no graph, and what is told hangs on what the graph has.
func TestGraphsAreNotChanged(t *testing.T) {
	s := odd()
	g := s.graph("stairs")
	was := g.Ids()
	for _, f := range right() {
		write(filter.Select(g, s.ids("first second ofLinks"), f), api.Id{66})
	}
	if !slices.Equal(g.Ids(), was) {
		t.Error("P0.3, P0.5: a graph that was asked has other Ids")
	}
	for _, id := range was {
		if o, ok := g.Get(id); !ok || name(o) != id {
			t.Errorf("P0.3, P0.5: a graph that was asked has %v", o)
		}
	}
	s.selects(t, g, "first", api.Filter{}, "first root a")
	if !g.Add(s["stairs"]) {
		t.Error("P0.5: a graph that was asked takes no more")
	}
	s.selects(t, g, "first", api.Filter{}, "first"+firstTrees+firstBlobs)
}

func ExampleSelect() {
	s := house()
	g := s.graph("")
	for _, text := range []string{"none", "blob:none", "blob:limit=0.05k", "tree:1", "tree:01"} {
		f, ok := filter.Get(text)
		fmt.Println(len(filter.Select(g, s.ids("first"), f)), filter.Put(f), ok)
	}
	// Output:
	// 8 none true
	// 4 blob:none true
	// 6 blob:limit=404999999999999a true
	// 2 tree:1 true
	// 8 none false
}

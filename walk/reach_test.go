package walk_test

import (
	"fmt"
	"slices"
	"strings"
	"testing"

	"colporteur/api"
	"colporteur/walk"
)

// What some objects of odd reach, all of it being there.
const (
	ofLib   = " lib a b "
	ofDeep  = " deep " + ofLib
	ofSrc   = " src c " + ofDeep
	ofRoot1 = " root1 a "
	ofRoot2 = " root2 " + ofSrc
	ofRoot3 = " root3 " + ofSrc
	ofC1    = " c1 " + ofRoot1
	ofC2    = " c2 " + ofRoot2 + ofC1
	ofSide  = " side " + ofC1
	ofMerge = " merge " + ofRoot3 + ofC2 + ofSide
)

func TestReach(t *testing.T) {
	s := odd()
	g := s.graph(s.every())
	for _, x := range []struct{ from, want string }{
		{"", ""}, {"gone", ""}, {"zero", ""}, {"gone lost zero gone", ""},
		{"a", "a"}, {"empty", "empty"}, {"lib", ofLib}, {"deep", ofDeep}, {"src", ofSrc}, {"root1", ofRoot1}, {"root2", ofRoot2}, {"root3", ofRoot3},
		{"c1", ofC1}, {"c2", ofC2}, {"side", ofSide}, {"merge", ofMerge}, {"top", "top" + ofMerge},
		{"a b", "a b"}, {"b a b b", "a b"}, {"root1 lib", ofRoot1 + ofLib}, {"c1 c2", ofC2}, {"c2 c1", ofC2}, {"side root2", ofSide + ofRoot2}, {"c c1", "c" + ofC1}, {"c2 side", ofC2 + ofSide},
		{"merge merge", ofMerge}, {"gone c1", ofC1}, {"c1 gone", ofC1}, {"zero lib gone lib c1 zero", ofLib + ofC1}, {"links", "links" + ofC2}, {"zeros", "zeros"},
		{"ofNone", "ofNone" + ofC1}, {"ofBlob", "ofBlob" + ofC1}, {"ofCommit", "ofCommit" + ofC2}, {"ofLinks", "ofLinks links" + ofC2}, {"ofZeros", "ofZeros zeros"}, {"zeroed", "zeroed"},
		{"orphan", "orphan" + ofC1}, {"half", "half" + ofC1}, {"treeFirst", "treeFirst empty" + ofLib + ofC2}, {"blobFirst", "blobFirst empty" + ofC2}, {"blobLast", "blobLast empty" + ofC2},
		{"last", "last orphan treeFirst blobLast empty" + ofLib + ofC2}, {s.every(), s.every()},
	} {
		s.rises(t, "Reach from "+x.from, g.Reach(s.ids(x.from)...), x.want)
	}
}

// What is behind that which is not there is not reached, but by another way.
func TestReachOfSome(t *testing.T) {
	s := history()
	for _, x := range []struct{ but, from, want string }{
		{"c1", "c2", "c2" + ofRoot2}, {"c1", "merge", "merge c2 side a root1" + ofRoot3 + ofRoot2}, {"c2", "merge", "merge " + ofRoot3 + ofSide}, {"c2 c1", "merge", "merge side a root1" + ofRoot3},
		{"c2 side", "top", "top merge" + ofRoot3}, {"merge", "top", "top" + ofRoot3}, {"root2", "c2", "c2" + ofC1}, {"src", "root2", "root2 a"}, {"lib", "src", "src a c deep"}, {"lib b", "deep", "deep a"},
		{"a", "c1", "c1 root1"}, {"a", "a", ""}, {"top", "top", ""}, {"merge", "top c1", "top" + ofRoot3 + ofC1}, {"src", "root2 lib", "root2" + ofLib}, {"deep", "src", "src c" + ofLib}, {"root3 c2", "top side", "top merge" + ofSide},
	} {
		s.rises(t, "Reach without "+x.but+" from "+x.from, s.graph(s.but(x.but)).Reach(s.ids(x.from)...), x.want)
	}
	g := s.graph(s.but("src"))
	s.rises(t, "Reach without src", g.Reach(s.id("root2")), "root2 a")
	if !g.Add(s["src"]) {
		t.Error("P15.1: Add of src")
	}
	s.rises(t, "Reach behind Add of src", g.Reach(s.id("root2")), ofRoot2)
}

func TestCommits(t *testing.T) {
	s := odd()
	g := s.graph(s.every())
	for _, x := range []struct{ from, want string }{
		{"", ""}, {"gone", ""}, {"zero", ""}, {"a", ""}, {"empty", ""}, {"src", ""}, {"root3", ""}, {"links", ""}, {"a src links gone", ""},
		{"c1", "c1"}, {"c2", "c2 c1"}, {"side", "side c1"}, {"merge", "merge c2 side c1"}, {"top", "top merge c2 side c1"},
		{"c1 c1", "c1"}, {"c2 side", "c2 side c1"}, {"side c2 side c1", "c2 side c1"}, {"a c1", "c1"}, {"c1 a", "c1"}, {"gone c2 zero", "c2 c1"}, {"links side", "side c1"}, {"root2 src side lib", "side c1"},
		{"ofNone", "ofNone c1"}, {"ofBlob", "ofBlob c1"}, {"ofCommit", "ofCommit"}, {"ofLinks", "ofLinks"}, {"zeroed", "zeroed"}, {"orphan", "orphan c1"}, {"half", "half c1"},
		{"treeFirst", "treeFirst c2 c1"}, {"blobFirst", "blobFirst c2 c1"}, {"blobLast", "blobLast c2 c1"}, {"last", "last orphan treeFirst blobLast c2 c1"}, {"last merge", "last orphan treeFirst blobLast merge side c2 c1"},
		{s.every(), "c1 c2 side merge top ofNone ofBlob ofCommit ofLinks ofZeros zeroed orphan half treeFirst blobFirst blobLast last"},
	} {
		s.rises(t, "Commits from "+x.from, g.Commits(s.ids(x.from)...), x.want)
	}
	for _, x := range []struct{ but, from, want string }{
		{"c1", "merge", "merge c2 side"}, {"c2", "merge", "merge side c1"}, {"c2 side", "top", "top merge"}, {"merge", "top", "top"}, {"merge", "top c2", "top c2 c1"}, {"top", "top", ""},
		{"root1 root2 root3", "top", "top merge c2 side c1"}, {"treeFirst orphan", "last", "last blobLast c2 c1"}, {"lib", "treeFirst", "treeFirst c2 c1"},
	} {
		s.rises(t, "Commits without "+x.but+" from "+x.from, s.graph(s.but(x.but)).Commits(s.ids(x.from)...), x.want)
	}
}

// A parent that is a tree leads to no commit, though a link of it does.
func TestCommitsThroughATree(t *testing.T) {
	s := odd()
	s.commit("overTree", "empty", "links")
	s.commit("overBoth", "empty", "links side")
	g := s.graph(s.every())
	s.rises(t, "Commits over a tree", g.Commits(s.id("overTree")), "overTree")
	s.rises(t, "Commits over a tree and a commit", g.Commits(s.id("overBoth")), "overBoth side c1")
	s.rises(t, "Reach over a tree", g.Reach(s.id("overTree")), "overTree empty links"+ofC2)
}

func TestMissing(t *testing.T) {
	s := odd()
	for _, x := range []struct{ there, want string }{
		{"", ""}, {"a", ""}, {"a b c empty", ""}, {"lib", "a b"}, {"lib a", "b"}, {"lib a b", ""}, {"deep", "a lib"}, {"deep lib", "a b"}, {"src deep lib", "a b c"},
		{"root1", "a"}, {"c1", "root1"}, {"c1 side", "root1"}, {"side", "root1 c1"}, {"c2 side", "root1 root2 c1"}, {"merge", "root3 c2 side"}, {"merge side", "root3 root1 c1 c2"}, {"merge top root3", "a b c lib src gone lost c2 side"},
		{"root3 a b c lib src", "gone lost deep"}, {"zeros", "zero"}, {"zeroed", "zero"}, {"zeroed zeros", "zero"}, {"ofNone c1 root1 a", "none"}, {"ofBlob", "a c1"}, {"ofCommit", "c2"}, {"ofBlob a c1", "root1"},
		{"orphan c1 root1 a", "away"}, {"orphan half c1 root1 a", "away"}, {"links", "c1 c2"}, {"treeFirst", "empty lib c2"}, {"treeFirst empty lib", "a b c2"},
		{history().every(), "gone lost"}, {s.every(), "gone lost none away zero"}, {s.but("zeros zeroed"), "gone lost none away zeros"}, {s.but("zeros zeroed ofZeros"), "gone lost none away"}, {s.but("a"), "gone lost none away zero a"}, {s.but("top last"), "gone lost none away zero"},
	} {
		s.rises(t, "Missing of "+x.there, s.graph(x.there).Missing(), x.want)
	}
}

// What is Added is missing no more; what it links to may be.
func TestMissingBehindAdd(t *testing.T) {
	s := odd()
	g := &walk.Graph{}
	for _, x := range []struct{ add, want string }{
		{"merge", "root3 c2 side"}, {"c2", "root3 side root2 c1"}, {"c1", "root3 side root2 root1"}, {"side", "root3 root2 root1"}, {"root1", "root3 root2 a"}, {"root2", "root3 a src"}, {"a", "root3 src"},
		{"src", "root3 c deep lib"}, {"top", "root3 c deep lib"}, {"deep", "root3 c lib"}, {"root3", "c lib b gone lost"}, {"lib", "c b gone lost"}, {"b", "c gone lost"}, {"c", "gone lost"}, {"zeros", "gone lost zero"},
	} {
		if !g.Add(s[x.add]) {
			t.Errorf("P15.1: Add of %s", x.add)
		}
		s.rises(t, "Missing behind Add of "+x.add, g.Missing(), x.want)
		g.Add(s[x.add])
		s.rises(t, "Missing behind another Add of "+x.add, g.Missing(), x.want)
	}
}

// By as many ways as there are here none could go them all.
func TestManyWays(t *testing.T) {
	const levels = 60
	var os, commits, trees []api.Object
	commits = []api.Object{commitOf(api.Commit{When: 1}), commitOf(api.Commit{When: 2}), commitOf(api.Commit{When: 3}), commitOf(api.Commit{When: 4})}
	tree := treeOf()
	trees = append(trees, tree)
	for range levels {
		row := names(commits[len(commits)-4:]...)
		for at := range 4 {
			commits = append(commits, commitOf(api.Commit{Tree: name(tree), Parents: row, When: float64(at)}))
		}
		var es []api.Entry
		for at := range 20 {
			es = append(es, api.Entry{Name: fmt.Sprint("e", string(rune('a'+at))), Tree: true, Id: name(tree)})
		}
		tree = treeOf(es...)
		trees = append(trees, tree)
	}
	os = append(append(os, commits...), trees...)
	g := walk.New(os...)
	last := name(commits[len(commits)-1])
	if got := g.Commits(last); len(got) != len(commits)-3 {
		t.Errorf("P15.1: Commits by many ways: %d", len(got))
	}
	if got := g.Reach(last); len(got) != len(commits)-3+levels {
		t.Errorf("P15.1: Reach by many ways: %d", len(got))
	}
	if got := g.Reach(name(tree)); !slices.Equal(got, rising(names(trees...))) {
		t.Errorf("P15.1: Reach of trees by many ways: %d", len(got))
	}
	if got := g.Missing(); !slices.Equal(got, []api.Id{{}}) {
		t.Errorf("P15.1: Missing by many ways: %x", got)
	}
	if got := g.Log(last, 1<<62); len(got) != levels+1 {
		t.Errorf("P15.1: Log by many ways: %d", len(got))
	}
	if got, e := g.Lookup(last, strings.Repeat("ea/", levels-2)+"et"); e != api.OK || got != name(treeOf()) {
		t.Errorf("P15.1: Lookup by many ways: %x, %d", got, e)
	}
}

// A history, and trees, so long that no call could take a step for each two of
// them.
func TestLong(t *testing.T) {
	const length = 100_000
	g := walk.New()
	tree, commit := treeOf(), commitOf(api.Commit{})
	for range length {
		tree = treeOf(api.Entry{Name: "d", Tree: true, Id: name(tree)})
		commit = commitOf(api.Commit{Parents: names(commit)})
		if !g.Add(tree) || !g.Add(commit) {
			t.Fatal("P15.1: Add of a long history")
		}
	}
	top := commitOf(api.Commit{Tree: name(tree), Parents: names(commit)})
	g.Add(top)
	last := name(top)
	if n := len(g.Reach(last)); n != 2*length+1 {
		t.Errorf("P0.1, P15.1: Reach of a long history: %d", n)
	}
	if n := len(g.Commits(last)); n != length+1 {
		t.Errorf("P0.1, P15.1: Commits of a long history: %d", n)
	}
	if n := len(g.Log(last, 1<<62)); n != length+1 {
		t.Errorf("P0.1, P15.1: Log of a long history: %d", n)
	}
	if got := g.Missing(); !slices.Equal(got, rising([]api.Id{{}, name(treeOf()), name(commitOf(api.Commit{}))})) {
		t.Errorf("P0.1, P15.1: Missing of a long history: %x", got)
	}
	path := strings.Repeat("d/", length)
	if got, e := g.Lookup(last, path[:2*length-3]); e != api.OK || got == (api.Id{}) {
		t.Errorf("P0.1, P15.1: Lookup of a long path: %x, %d", got, e)
	}
	for what, want := range map[string]api.Errno{path: api.ErrForm, path + "d": api.ErrNone, path[:2*length-1]: api.ErrNone, path[:2*length-3] + "/e": api.ErrNone} {
		if got, e := g.Lookup(last, what); e != want || got != (api.Id{}) {
			t.Errorf("P0.1, P15.1: Lookup of a long path: %x, %d, not %d", got, e, want)
		}
	}
	many := slices.Repeat([]api.Id{last, {7}, {}}, length)
	if n := len(g.Commits(many...)); n != length+1 {
		t.Errorf("P0.1, P15.1: Commits of many: %d", n)
	}
	if n := len(g.Reach(many...)); n != 2*length+1 {
		t.Errorf("P0.1, P15.1: Reach of many: %d", n)
	}
}

package walk_test

import (
	"fmt"
	"math"
	"slices"
	"strings"
	"testing"

	"colporteur/api"
	"colporteur/walk"
)

// noPaths are texts that are no Path, each in another way.
func noPaths() []string {
	long := strings.Repeat("n", 21)
	found := []string{
		"/", "//", "///", "/readme", "readme/", "src//lib", "src/lib/", "/src/lib", "src/lib//", ".", "..", "./readme", "../readme", "src/.", "src/..", "src/./lib", "src/../readme",
		"README", "Src/lib", "src/Lib", "read me", " readme", "readme ", "src /lib", "src/ lib", " ", "readme\n", "\nreadme", "src\\lib", "readme\x00", "\x00", "src/\x00", "é", "src/é", "\xff", "src/\xff/lib",
		"readme*", "readme,", "readme:", "~", "src+lib", "src/lib?", long, "src/" + long, long + "/lib", "src/" + long + "/x", "none/..", "none/A", "none//x", "readme/..", "gone/", "wrong//", strings.Repeat("n", 1<<16),
		strings.Repeat("src/", 1<<12), strings.Repeat("/", 1<<12), strings.Repeat("../", 100) + "readme",
	}
	for b := range 256 {
		if !strings.Contains("abcdefghijklmnopqrstuvwxyz0123456789.-_/", string(rune(b))) {
			found = append(found, string([]byte{byte(b)}), string([]byte{'s', 'r', 'c', '/', byte(b)}))
		}
	}
	return found
}

// finds asks that g's Lookup tells the name of want; "": none, for that reason.
func (s shelf) finds(t *testing.T, g *walk.Graph, commit, path, want string, e api.Errno) {
	t.Helper()
	var id api.Id
	if want != "" {
		id = s.id(want)
	}
	if got, err := g.Lookup(s.id(commit), path); got != id || err != e {
		t.Errorf("P15.1: Lookup of %s, %.60q: %s, %d, not %s, %d", commit, path, s.says([]api.Id{got}), err, want, e)
	}
}

func TestLookup(t *testing.T) {
	s := odd()
	g := s.graph(s.every())
	for _, x := range []struct{ commit, path, want string }{
		{"c1", "", "root1"}, {"c2", "", "root2"}, {"side", "", "root1"}, {"top", "", "root3"}, {"treeFirst", "", "empty"},
		{"c1", "readme", "a"}, {"c2", "readme", "a"}, {"top", "readme", "b"}, {"top", "a", "a"}, {"c2", "src", "src"}, {"c2", "src/a", "a"}, {"c2", "src/c", "c"}, {"c2", "src/lib", "lib"}, {"c2", "src/lib/x", "a"}, {"c2", "src/lib/y", "b"},
		{"c2", "src/deep", "deep"}, {"c2", "src/deep/z", "a"}, {"c2", "src/deep/more", "lib"}, {"c2", "src/deep/more/x", "a"}, {"merge", "src/deep/more/y", "b"},
		// By its own kind: the entry says nothing.
		{"top", "odd", "lib"}, {"top", "odd/x", "a"}, {"top", "odd/y", "b"}, {"top", "wrong", "c"}, {"ofLinks", "commit", "c1"}, {"ofLinks", "tree", "c2"},
	} {
		s.finds(t, g, x.commit, x.path, x.want, api.OK)
	}
	for _, x := range []struct{ commit, path string }{
		// No such entry.
		{"c1", "none"}, {"c1", "a"}, {"c1", "src"}, {"c1", "src/lib"}, {"c1", "readm"}, {"c1", "readmes"}, {"c1", "..."}, {"c2", "lib"}, {"c2", "src/none"}, {"c2", "src/lib/z"}, {"c2", "src/lib/none/x"}, {"c2", "none/lib"}, {"c2", "src/readme"}, {"c2", "deep/more/x"},
		{"treeFirst", "readme"}, {"treeFirst", "a/b"}, {"c2", "src/deep/more/more"}, {"c2", "src/src"}, {"c2", "src/c2"},
		// Through a blob, through a commit.
		{"c1", "readme/x"}, {"c1", "readme/readme"}, {"c2", "src/a/x"}, {"c2", "src/deep/z/x"}, {"top", "wrong/x"}, {"top", "wrong/c"}, {"top", "wrong/x/y"}, {"ofLinks", "commit/readme"}, {"ofLinks", "tree/readme"}, {"ofLinks", "tree/src"},
		// What is not there, and through it.
		{"top", "gone"}, {"top", "lost"}, {"top", "gone/x"}, {"top", "lost/x"}, {"top", "gone/x/y"}, {"top", "lost/readme"}, {"ofZeros", "x"}, {"ofZeros", "y"}, {"ofZeros", "y/x"},
		// A Tree that is not there, or is no tree.
		{"ofNone", ""}, {"ofNone", "readme"}, {"ofNone", "src/lib"}, {"zeroed", ""}, {"zeroed", "x"}, {"ofBlob", "readme"}, {"ofBlob", "a"}, {"ofBlob", "x/y"}, {"ofCommit", "readme"}, {"ofCommit", "src"},
		// No commit.
		{"root1", ""}, {"root1", "readme"}, {"src", "lib"}, {"src", "lib/x"}, {"a", ""}, {"a", "readme"}, {"empty", ""}, {"links", "commit"}, {"none", ""}, {"none", "readme"}, {"gone", ""}, {"away", "src/lib"}, {"zero", ""}, {"zero", "x"},
	} {
		s.finds(t, g, x.commit, x.path, "", api.ErrNone)
	}
}

// A Tree of any kind stands at the empty path; nothing stands within it, if it
// is no tree.
func TestLookupOfATreeThatIsNone(t *testing.T) {
	s := odd()
	g := s.graph(s.every())
	s.finds(t, g, "ofBlob", "", "a", api.OK)
	s.finds(t, g, "ofCommit", "", "c2", api.OK)
	for _, path := range []string{"readme", "src", "a", "src/lib", "x"} {
		s.finds(t, g, "ofBlob", path, "", api.ErrNone)
		s.finds(t, g, "ofCommit", path, "", api.ErrNone)
	}
}

func TestLookupOfNoPath(t *testing.T) {
	s := odd()
	g := s.graph(s.every())
	for _, path := range noPaths() {
		for _, commit := range []string{"c1", "c2", "top", "ofNone", "ofBlob", "treeFirst", "zeroed", "root2", "src", "a", "none", "zero"} {
			s.finds(t, g, commit, path, "", api.ErrForm)
		}
		for what, g := range map[string]*walk.Graph{"New of nothing": walk.New(), "a zero Graph": {}} {
			if got, e := g.Lookup(s.id("c1"), path); got != (api.Id{}) || e != api.ErrForm {
				t.Errorf("P15.1: %s: Lookup of %.60q: %x, %d", what, path, got, e)
			}
		}
	}
	for _, path := range []string{"", "a", "src/lib", "..."} {
		for what, g := range map[string]*walk.Graph{"New of nothing": walk.New(), "a zero Graph": {}} {
			if got, e := g.Lookup(s.id("c1"), path); got != (api.Id{}) || e != api.ErrNone {
				t.Errorf("P15.1: %s: Lookup of %.60q: %x, %d", what, path, got, e)
			}
		}
	}
}

// Each object on the way must be there, and what stands at the path, too;
// nothing else.
func TestLookupOfSome(t *testing.T) {
	s := history()
	for _, x := range []struct{ there, commit, path, want string }{
		{"c1", "c1", "", ""}, {"c1 root1", "c1", "", "root1"}, {"c1 root1", "c1", "readme", ""}, {"c1 root1 a", "c1", "readme", "a"}, {"root1 a", "c1", "readme", ""}, {"c1 a", "c1", "readme", ""},
		{"c2 root2 src lib b", "c2", "src/lib/y", "b"}, {"c2 root2 src lib a", "c2", "src/lib/y", ""}, {"c2 root2 src b", "c2", "src/lib/y", ""}, {"c2 root2 lib b", "c2", "src/lib/y", ""}, {"c2 src lib b", "c2", "src/lib/y", ""}, {"root2 src lib b", "c2", "src/lib/y", ""},
		{"c2 root2 src lib", "c2", "src/lib", "lib"}, {"c2 root2 src", "c2", "src/lib", ""}, {"c2 root2 lib", "c2", "src/lib", ""}, {"c2 root2", "c2", "", "root2"}, {"c2 root1", "c2", "", ""},
	} {
		e := api.OK
		if x.want == "" {
			e = api.ErrNone
		}
		s.finds(t, s.graph(x.there), x.commit, x.path, x.want, e)
	}
}

// The names that are odd, but may be, and each of many entries.
func TestLookupOfNames(t *testing.T) {
	long := strings.Repeat("n", 20)
	s := shelf{}
	s.blobs("a b c d e f")
	s.tree("inner", "...=a _=b "+long+"=c")
	s.tree("outer", "-=d .../=inner .x=e _./=inner "+long+"/=inner")
	s.commit("top", "outer", "")
	g := s.graph(s.every())
	for path, want := range map[string]string{
		"-": "d", "...": "inner", ".x": "e", "_.": "inner", long: "inner", ".../...": "a", ".../_": "b", "_./_": "b", long + "/" + long: "c", ".../" + long: "c", long + "/...": "a",
	} {
		s.finds(t, g, "top", path, want, api.OK)
	}
	for _, path := range []string{long[:19], "_", "x", ".../-", ".../.x", "..._", ".../..../x", long + "/" + long[1:]} {
		s.finds(t, g, "top", path, "", api.ErrNone)
	}
	wide := shelf{}
	var entries []string
	for at := range 20 {
		label := fmt.Sprintf("b%02d", at)
		wide.blobs(label)
		entries = append(entries, "n"+label+"="+label)
	}
	wide.tree("root", strings.Join(entries, " "))
	wide.commit("top", "root", "")
	g = wide.graph(wide.every())
	for at := range 20 {
		label := fmt.Sprintf("b%02d", at)
		wide.finds(t, g, "top", "n"+label, label, api.OK)
		wide.finds(t, g, "top", label, "", api.ErrNone)
	}
}

func TestLog(t *testing.T) {
	s := odd()
	g := s.graph(s.every())
	lines := map[string]string{
		"c1": "c1", "c2": "c2 c1", "side": "side c1", "merge": "merge c2 c1", "top": "top merge c2 c1", "ofNone": "ofNone c1", "ofBlob": "ofBlob c1", "ofCommit": "ofCommit", "zeroed": "zeroed",
		"orphan": "orphan", "half": "half c1", "treeFirst": "treeFirst", "blobFirst": "blobFirst", "blobLast": "blobLast c2 c1", "last": "last orphan",
		"a": "", "empty": "", "src": "", "root3": "", "links": "", "none": "", "gone": "", "away": "", "zero": "",
	}
	for commit, labels := range lines {
		line := s.ids(labels)
		for _, n := range []int{math.MinInt, -1 << 40, -2, -1, 0, 1, 2, 3, 4, 5, 6, 100, 1 << 40, math.MaxInt} {
			want := line[:max(0, min(n, len(line)))]
			if got := g.Log(s.id(commit), n); !slices.Equal(got, want) {
				t.Errorf("P15.1: Log of %s, %d: %s, not %s", commit, n, s.says(got), s.says(want))
			}
		}
	}
	for _, x := range []struct{ but, commit, want string }{
		{"c1", "top", "top merge c2"}, {"c2", "top", "top merge"}, {"merge", "top", "top"}, {"top", "top", ""}, {"side", "top", "top merge c2 c1"}, {"c1", "side", "side"}, {"root1 root2 root3 src a", "top", "top merge c2 c1"},
		{"c1", "c1", ""}, {"orphan", "last", "last"},
	} {
		if got := s.graph(s.but(x.but)).Log(s.id(x.commit), 9); !slices.Equal(got, s.ids(x.want)) {
			t.Errorf("P15.1: Log without %s of %s: %s, not %s", x.but, x.commit, s.says(got), x.want)
		}
	}
	for what, g := range map[string]*walk.Graph{"New of nothing": walk.New(), "a zero Graph": {}} {
		if got := g.Log(s.id("c1"), 3); len(got) != 0 {
			t.Errorf("P15.1: %s: Log: %x", what, got)
		}
	}
}

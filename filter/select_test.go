package filter_test

import (
	"fmt"
	"math"
	"slices"
	"strings"
	"testing"

	"colporteur/api"
	"colporteur/filter"
	"colporteur/walk"
)

// noGraphs are such as have nothing.
func noGraphs() map[string]*walk.Graph {
	return map[string]*walk.Graph{"nil": nil, "a zero Graph": {}, "New of nothing": walk.New()}
}

func TestSelectFromNothing(t *testing.T) {
	s := odd()
	all := strings.Join(s.labels(), " ") + " gone zero"
	for what, g := range noGraphs() {
		for _, f := range right() {
			for _, commits := range []string{"", "first", "gone", "zero", "a", all} {
				if got := filter.Select(g, s.ids(commits), f); len(got) != 0 {
					t.Errorf("P17.1: %s: Select of %s, %v: %s", what, commits, f, s.says(got))
				}
			}
		}
	}
	g := s.graph("")
	for _, f := range right() {
		if got := filter.Select(g, nil, f); len(got) != 0 {
			t.Errorf("P17.1: Select of no commits, %v: %s", f, s.says(got))
		}
		if got := filter.Select(g, []api.Id{}, f); len(got) != 0 {
			t.Errorf("P0.4, P17.1: Select of no commits, %v: %s", f, s.says(got))
		}
	}
}

// What the Trees of some commits of a house have, by the kinds.
const (
	firstTrees  = " root stairs cellar "
	firstBlobs  = " a b c d "
	secondTrees = " flat cellar "
	secondBlobs = " a c d e "
)

func TestSelect(t *testing.T) {
	s := house()
	g := s.graph("")
	for _, x := range []struct {
		commits string
		f       api.Filter
		want    string
	}{
		{"first", api.Filter{}, "first" + firstTrees + firstBlobs}, {"second", api.Filter{}, "second" + secondTrees + secondBlobs}, {"third", api.Filter{}, "third empty"},
		{"first second", api.Filter{}, "first second" + firstTrees + firstBlobs + secondTrees + secondBlobs}, {"third second", api.Filter{}, "third second empty" + secondTrees + secondBlobs},
		{"first", noBlobs(), "first" + firstTrees}, {"second", noBlobs(), "second" + secondTrees}, {"third", noBlobs(), "third empty"}, {"third first second", noBlobs(), "third first second empty" + firstTrees + secondTrees},
		{"first", shorter(0), "first" + firstTrees}, {"first", shorter(math.SmallestNonzeroFloat64), "first a" + firstTrees}, {"first", shorter(1), "first a" + firstTrees}, {"first", shorter(10), "first a" + firstTrees},
		{"first", shorter(math.Nextafter(10, 11)), "first a b" + firstTrees}, {"first", shorter(10.5), "first a b" + firstTrees}, {"first", shorter(11), "first a b" + firstTrees}, {"first", shorter(99.5), "first a b" + firstTrees}, {"first", shorter(100), "first a b" + firstTrees}, {"first", shorter(101), "first a b c" + firstTrees},
		{"first", shorter(1000), "first a b c" + firstTrees}, {"first", shorter(1000.001), "first" + firstBlobs + firstTrees}, {"first", shorter(million), "first" + firstBlobs + firstTrees},
		{"second", shorter(9), "second a" + secondTrees}, {"second", shorter(9.5), "second a e" + secondTrees}, {"first second", shorter(10), "first second a e" + firstTrees + secondTrees},
		{"first", within(0), "first"}, {"first", within(1), "first root"}, {"first", within(2), "first root a stairs"}, {"first", within(3), "first root a stairs b cellar"}, {"first", within(4), "first" + firstTrees + firstBlobs}, {"first", within(5), "first" + firstTrees + firstBlobs}, {"first", within(1000), "first" + firstTrees + firstBlobs},
		{"second", within(0), "second"}, {"second", within(1), "second flat"}, {"second", within(2), "second flat e cellar"}, {"second", within(3), "second" + secondTrees + secondBlobs},
		{"third", within(0), "third"}, {"third", within(1), "third empty"},
		{"first second", within(0), "first second"}, {"first second", within(1), "first second root flat"}, {"first second", within(2), "first second root flat a stairs e cellar"}, {"first second", within(3), "first second" + firstTrees + firstBlobs + secondTrees + secondBlobs},
	} {
		s.selects(t, g, x.commits, x.f, x.want)
		labels := strings.Fields(x.commits)
		slices.Reverse(labels)
		turned := strings.Join(labels, " ")
		for _, commits := range []string{turned, x.commits + " " + turned, turned + " " + turned + " " + turned, "gone " + x.commits, x.commits + " zero a cellar root gone"} {
			s.selects(t, g, commits, x.f, x.want)
		}
	}
}

// Ids of what is no commit are passed by, with all that is reached from them.
func TestSelectOfNoCommits(t *testing.T) {
	s := odd()
	g := s.graph("")
	for _, f := range right() {
		for _, label := range []string{"a", "b", "c", "d", "e", "empty", "cellar", "stairs", "root", "flat", "liar", "links", "holes", "gone", "lost", "zero", "root flat a b gone zero"} {
			s.selects(t, g, label, f, "")
			s.selects(t, g, label+" third "+label, f, s.text(filter.Select(g, s.ids("third"), f)))
		}
	}
	s.selects(t, g, "third links root", api.Filter{}, "third empty")
	s.selects(t, g, "third ofNone", api.Filter{}, "third empty ofNone")
}

// A commit leads to its Tree alone, and an entry that leads to a commit leads no
// further: the Parents of neither are reached, nor is the Tree of the latter.
func TestSelectOfOddLinks(t *testing.T) {
	s := odd()
	g := s.graph("")
	for _, x := range []struct {
		commits string
		f       api.Filter
		want    string
	}{
		{"ofLinks", api.Filter{}, "ofLinks links first second"}, {"ofLinks", noBlobs(), "ofLinks links first second"}, {"ofLinks", shorter(0), "ofLinks links first second"}, {"ofLinks", within(0), "ofLinks first second"}, {"ofLinks", within(1), "ofLinks links first second"}, {"ofLinks", within(2), "ofLinks links first second"},
		{"ofLinks second", api.Filter{}, "ofLinks links first second" + secondTrees + secondBlobs}, {"first ofLinks", within(1), "ofLinks links first second root"}, {"ofLinks third", within(0), "ofLinks third first second"},
		{"ofCommit", api.Filter{}, "ofCommit second"}, {"ofCommit", noBlobs(), "ofCommit second"}, {"ofCommit", within(0), "ofCommit second"}, {"ofCommit", within(1), "ofCommit second"}, {"ofCommit second", within(1), "ofCommit second flat"},
		{"ofBlob", api.Filter{}, "ofBlob b"}, {"ofBlob", noBlobs(), "ofBlob"}, {"ofBlob", shorter(10), "ofBlob"}, {"ofBlob", shorter(10.5), "ofBlob b"}, {"ofBlob", within(0), "ofBlob"}, {"ofBlob", within(1), "ofBlob b"}, {"first ofBlob", within(1), "first root ofBlob b"},
		{"ofLiar", api.Filter{}, "ofLiar liar b cellar a c d"}, {"ofLiar", noBlobs(), "ofLiar liar cellar"}, {"ofLiar", shorter(10), "ofLiar liar cellar a"}, {"ofLiar", shorter(11), "ofLiar liar cellar a b"}, {"ofLiar", within(1), "ofLiar liar"}, {"ofLiar", within(2), "ofLiar liar b cellar"}, {"ofLiar", within(3), "ofLiar liar b cellar a c d"},
		{"ofHoles", api.Filter{}, "ofHoles holes e"}, {"ofHoles", noBlobs(), "ofHoles holes"}, {"ofHoles", within(1), "ofHoles holes"}, {"ofHoles", within(2), "ofHoles holes e"},
		{"ofNone", api.Filter{}, "ofNone"}, {"ofNone", within(0), "ofNone"}, {"ofNone", within(9), "ofNone"}, {"ofZero", api.Filter{}, "ofZero"}, {"ofZero", noBlobs(), "ofZero"},
		{"treeBehind", api.Filter{}, "treeBehind empty"}, {"treeBehind", within(1), "treeBehind empty"}, {"treeBehind", within(0), "treeBehind"},
	} {
		s.selects(t, g, x.commits, x.f, x.want)
	}
}

// A commit is let however deep it stands, and whatever is left out on the way.
func TestSelectOfDeepCommits(t *testing.T) {
	s := house()
	s.tree("inner", "c=first x=b")
	s.tree("middle", "d/=inner y=c")
	s.tree("outer", "d/=middle z=d")
	s.commit("top", "outer", "third")
	g := s.graph("")
	for depth, want := range []string{"", "outer", "outer middle d", "outer middle inner d c", "outer middle inner d c b"} {
		s.selects(t, g, "top", within(depth), "top first "+want)
	}
	s.selects(t, g, "top", noBlobs(), "top first outer middle inner")
}

// Not all of it is there: what is behind that which is not is not reached, but by
// another way.
func TestSelectOfSome(t *testing.T) {
	s := house()
	for _, x := range []struct{ but, commits, want string }{
		{"root", "first", "first"}, {"stairs", "first", "first root a"}, {"cellar", "first", "first root a stairs b"}, {"a", "first", "first root stairs cellar b c d"}, {"c d", "first", "first root stairs cellar a b"},
		{"first", "first", ""}, {"first", "first second", "second" + secondTrees + secondBlobs}, {"first second", "third", "third empty"}, {"empty", "third", "third"}, {"third", "third second first", "first second" + firstTrees + firstBlobs + secondTrees + secondBlobs},
		{"stairs", "first second", "first second root" + secondTrees + secondBlobs}, {"cellar", "first second", "first second root stairs flat a b e"}, {"root flat", "first second", "first second"}, {"flat", "first second", "first second" + firstTrees + firstBlobs},
		{"first second third", "first second third", ""},
	} {
		s.selects(t, s.graph(x.but), x.commits, api.Filter{}, x.want)
	}
	// The near way is not there: the far one counts.
	s.selects(t, s.graph("flat"), "first second", within(3), "first second root a stairs b cellar")
	s.selects(t, s.graph("second"), "first second", within(3), "first root a stairs b cellar")
	s.selects(t, s.graph("stairs"), "first second", within(2), "first second root flat a cellar e")
}

// What stands at two depths of one commit, the near one ahead and behind.
func TestSelectAtTheLeastDepth(t *testing.T) {
	for _, x := range []struct{ near, far string }{{"a", "z"}, {"z", "a"}} {
		s := shelf{}
		s.blobs("blob:5 deep:6")
		s.tree("thing", "d=deep")
		s.tree("one", "blob=blob thing/=thing")
		s.tree("two", "one/=one")
		s.tree("three", "two/=two")
		entries := []string{x.near + "1=blob", x.near + "2/=thing", x.far + "/=three"}
		slices.Sort(entries)
		s.tree("root", strings.Join(entries, " "))
		s.commit("top", "root", "")
		g := s.graph("")
		for depth, want := range []string{"top", "top root", "top root blob thing three", "top root blob thing three deep two", "top root blob thing three deep two one"} {
			s.selects(t, g, "top", within(depth), want)
		}
	}
}

// What stands at two depths of two commits, in whichever order these stand.
func TestSelectAtTheLeastDepthOfTwo(t *testing.T) {
	s := shelf{}
	s.blobs("leaf:5")
	s.tree("t0", "x=leaf")
	for n := range 6 {
		s.tree(fmt.Sprint("t", n+1), fmt.Sprint("t/=t", n))
		s.commit(fmt.Sprint("c", n), fmt.Sprint("t", n), "")
	}
	g := s.graph("")
	for low := range 6 {
		for high := low; high < 6; high++ {
			for depth := range 9 {
				want := fmt.Sprint("c", low, " c", high)
				for n := range high + 1 {
					if n <= low && low-n < depth || high-n < depth {
						want += fmt.Sprint(" t", n)
					}
				}
				if low+1 < depth {
					want += " leaf"
				}
				s.selects(t, g, fmt.Sprint("c", low, " c", high), within(depth), want)
				s.selects(t, g, fmt.Sprint("c", high, " c", low), within(depth), want)
			}
		}
	}
}

// A tree is left out, and its entries are reached by another way.
func TestSelectOfWhatALeftOutTreeHas(t *testing.T) {
	for _, at := range []string{"a", "z"} {
		s := shelf{}
		s.blobs("shared:5 own:6")
		s.tree("low", "")
		s.tree("left", "low/=low own=own shared=shared")
		s.tree("mid", "left/=left")
		entries := []string{at + "1=shared", at + "2/=low", "mid/=mid"}
		slices.Sort(entries)
		s.tree("root", strings.Join(entries, " "))
		s.commit("top", "root", "")
		s.tree("side", "n=own")
		s.commit("other", "side", "")
		g := s.graph("")
		s.selects(t, g, "top", within(2), "top root mid shared low")
		s.selects(t, g, "top other", within(2), "top other root side mid shared low own")
		s.selects(t, g, "other top", within(2), "top other root side mid shared low own")
		s.selects(t, g, "top", within(3), "top root mid left shared low")
		s.selects(t, g, "top", within(4), "top root mid left shared low own")
	}
}

// The Tree of a commit stands at 0, be it an entry of another one's, too.
func TestSelectOfATreeWithinAnother(t *testing.T) {
	s := house()
	s.commit("ofCellar", "cellar", "")
	g := s.graph("")
	for _, commits := range []string{"first ofCellar", "ofCellar first"} {
		s.selects(t, g, commits, within(1), "first ofCellar root cellar")
		s.selects(t, g, commits, within(2), "first ofCellar root cellar a c d stairs")
		s.selects(t, g, commits, within(3), "first ofCellar"+firstTrees+firstBlobs)
	}
	// Two commits of one Tree.
	s.commit("again", "root", "first")
	g = s.graph("")
	s.selects(t, g, "first again", within(2), "first again root a stairs")
	s.selects(t, g, "again", within(2), "again root a stairs")
}

// A tree with all entries that may be, of all of which some are left out.
func TestSelectOfAWideTree(t *testing.T) {
	s := shelf{}
	var entries []string
	for at := range 20 {
		label := fmt.Sprintf("b%02d", at)
		s.blobs(fmt.Sprint(label, ":", at))
		entries = append(entries, label+"="+label)
	}
	s.tree("root", strings.Join(entries, " "))
	s.commit("top", "root", "")
	g := s.graph("")
	for at := range 21 {
		want := "top root"
		for n := range at {
			want += fmt.Sprintf(" b%02d", n)
		}
		s.selects(t, g, "top", shorter(float64(at)), want)
		if at > 0 {
			s.selects(t, g, "top", shorter(float64(at)-0.5), want)
		}
	}
}

// line is a graph of n trees, each the next one's entry, and a commit of the last
// one; the trees in their order from that one on.
func line(n int) (g *walk.Graph, top api.Id, trees []api.Id) {
	g = walk.New()
	o := treeOf()
	for range n {
		g.Add(o)
		trees = append(trees, name(o))
		o = treeOf(api.Entry{Name: "t", Tree: true, Id: name(o)})
	}
	slices.Reverse(trees)
	o = commitOf(api.Commit{Tree: trees[0]})
	g.Add(o)
	return g, name(o), trees
}

func TestSelectOfALongLine(t *testing.T) {
	g, top, trees := line(2000)
	for _, depth := range []int{0, 1, 2, 10, 500, 999, 1000} {
		want := rising(append([]api.Id{top}, trees[:depth]...))
		if got := filter.Select(g, []api.Id{top}, within(depth)); !slices.Equal(got, want) {
			t.Errorf("P17.1: Select of a long line, %d: %d of it", depth, len(got))
		}
	}
	g, top, trees = line(100000)
	if got := filter.Select(g, []api.Id{top}, noBlobs()); len(got) != len(trees)+1 {
		t.Errorf("P0.1, P17.1: Select of a line of %d: %d", len(trees), len(got))
	}
}

// More ways than could be gone, one by one.
func TestSelectOfManyWays(t *testing.T) {
	g := walk.New()
	level := []api.Object{blobOf("a"), blobOf("b")}
	count := 0
	for range 300 {
		var next []api.Object
		for which := range 2 {
			var es []api.Entry
			for at := range 20 {
				o := level[(at+which)%2]
				es = append(es, api.Entry{Name: fmt.Sprintf("e%02d", at), Tree: o.Kind == api.KTree, Id: name(o)})
			}
			next = append(next, treeOf(es...))
		}
		for _, o := range level {
			g.Add(o)
			count++
		}
		level = next
	}
	g.Add(level[0])
	c := commitOf(api.Commit{Tree: name(level[0])})
	g.Add(c)
	for _, x := range []struct {
		f    api.Filter
		want int
	}{{api.Filter{}, count + 2}, {noBlobs(), count}, {within(0), 1}, {within(1), 2}, {within(2), 4}, {within(300), 600}, {within(301), count + 2}} {
		if got := filter.Select(g, []api.Id{name(c)}, x.f); len(got) != x.want {
			t.Errorf("P0.1, P17.1: Select of many ways, %v: %d, not %d", x.f, len(got), x.want)
		}
	}
}

// One commit as often as one likes, and many.
func TestSelectOfManyCommits(t *testing.T) {
	s := house()
	g := s.graph("")
	many := slices.Repeat(s.ids("first gone second a"), 20000)
	if got := filter.Select(g, many, within(2)); !slices.Equal(got, rising(s.ids("first second root flat a stairs e cellar"))) {
		t.Errorf("P17.1: Select of two over and over: %s", s.says(got))
	}
	want := s.ids("root a stairs")
	var commits []api.Id
	for at := range 3000 {
		o := commitOf(api.Commit{Tree: s.id("root"), When: float64(at), Parents: commits[max(0, at-3):]})
		g.Add(o)
		commits = append(commits, name(o))
	}
	if got := filter.Select(g, commits, within(2)); !slices.Equal(got, rising(append(want, commits...))) {
		t.Errorf("P17.1: Select of many: %d", len(got))
	}
}

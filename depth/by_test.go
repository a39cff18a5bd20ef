package depth_test

import (
	"fmt"
	"math"
	"slices"
	"strings"
	"testing"

	"colporteur/api"
	"colporteur/depth"
	"colporteur/walk"
)

// byIs asks By of s, and what it tells.
func (s shelf) byIs(t *testing.T, g *walk.Graph, wants string, d int, in, cut string) {
	t.Helper()
	gotIn, gotCut, e := depth.By(g, s.ids(wants), d)
	what := fmt.Sprintf("By of %q, %d", wants, d)
	if e != api.OK {
		t.Errorf("P16.1: %s: %d", what, e)
	}
	s.rises(t, what+": in", gotIn, in)
	s.rises(t, what+": cut", gotCut, cut)
}

// all are numbers that stand for: by however many parents.
var all = []int{math.MinInt, math.MinInt + 1, math.MinInt32, -1001, -1000, -2, -1}

func TestByOfAChain(t *testing.T) {
	s := shelfOf(chain)
	g := s.graph()
	labels := strings.Fields("a b c d e f g h")
	for at, want := range labels {
		for d := 1; d <= 12; d++ {
			first, cut := at-d+1, ""
			if first > 0 {
				cut = labels[first]
			}
			s.byIs(t, g, want, d, strings.Join(labels[max(0, first):at+1], " "), cut)
		}
		for _, d := range append([]int{999, 1000}, all...) {
			s.byIs(t, g, want, d, strings.Join(labels[:at+1], " "), "")
		}
	}
}

func TestByOfSome(t *testing.T) {
	s := shelfOf(chain)
	g := s.graph()
	for _, x := range []struct {
		wants   string
		d       int
		in, cut string
	}{
		{"", 1, "", ""}, {"", 1000, "", ""}, {"", -1, "", ""},
		{"h h", 1, "h", "h"}, {"h h h", 2, "g h", "g"}, {"c h c", 2, "b c g h", "b g"}, {"h c h", -1, "a b c d e f g h", ""},
		{"c d", 1, "c d", "c"}, {"d c", 1, "c d", "c"}, {"d f", 2, "c d e f", "c"}, {"f d", 2, "c d e f", "c"}, {"e h", 3, "c d e f g h", "c"}, {"h e", 3, "c d e f g h", "c"},
		{"a h", 1, "a h", "h"}, {"h a", 7, "a b c d e f g h", ""}, {"h b", 6, "a b c d e f g h", ""}, {"h g f e d c b a", 1, "a b c d e f g h", ""}, {"a b c d e f g h", 1, "a b c d e f g h", ""},
		{"gone", 1, "", ""}, {"gone lost zero", 5, "", ""}, {"zero", -1, "", ""}, {"blob", 2, "", ""}, {"tree blob tree", -1, "", ""}, {"tree", 1000, "", ""},
		{"gone c blob", 1, "c", "c"}, {"c tree gone c", 2, "b c", "b"}, {"blob zero gone tree e", -1, "a b c d e", ""},
	} {
		s.byIs(t, g, x.wants, x.d, x.in, x.cut)
	}
}

// A commit that is reached by a short way and by a long one is as deep as by the
// short one, in whichever order they stand.
func TestByOfAMerge(t *testing.T) {
	s := shelfOf(merge)
	turned := shelfOf(strings.ReplaceAll(merge, "s,l3", "l3,s"))
	for _, x := range []struct {
		wants   string
		d       int
		in, cut string
	}{
		{"top", 1, "top", "top"}, {"top", 2, "top tip", "tip"}, {"top", 3, "top tip s l3", "s l3"}, {"top", 4, "top tip s l3 l2 root", "l2 root"}, {"top", 5, "top tip s l3 l2 root l1 old", ""}, {"top", 6, "top tip s l3 l2 root l1 old", ""},
		{"tip", 2, "tip s l3", "s l3"}, {"tip", 3, "tip s l3 root l2", "root l2"}, {"tip", 4, "tip s l3 root l2 l1 old", ""},
		{"l3", 3, "l3 l2 l1", "l1"}, {"l3", 4, "l3 l2 l1 root", "root"}, {"l3", 5, "l3 l2 l1 root old", ""},
		{"l3 s", 1, "l3 s", "l3 s"}, {"l3 s", 2, "l3 s l2 root", "l2 root"}, {"l3 s", 3, "l3 s l2 l1 root old", ""}, {"s l3", 3, "l3 s l2 l1 root old", ""},
		{"top l2", 1, "top l2", "top l2"}, {"top l2", 2, "top tip l2 l1", "tip l1"}, {"top l2", 3, "top tip l2 l1 s l3 root", "root"}, {"l2 top", 3, "top tip l2 l1 s l3 root", "root"}, {"l2 top", 4, "top tip l2 l1 s l3 root old", ""},
		{"top root", 1, "top root", "top root"}, {"root top", 2, "top tip root old", "tip"}, {"top root", 2, "top tip root old", "tip"}, {"top root", 3, "top tip s l3 root old", "l3"}, {"old top s", 2, "old top tip s root", "tip"}, {"top old tip", 2, "old top tip s l3", "s l3"},
		{"top", -1, "old root s l1 l2 l3 tip top", ""}, {"top l1 top", -9, "old root s l1 l2 l3 tip top", ""}, {"s l2", -1, "old root s l1 l2", ""}, {"top", 1000, "old root s l1 l2 l3 tip top", ""},
	} {
		s.byIs(t, s.graph(), x.wants, x.d, x.in, x.cut)
		turned.byIs(t, turned.graph(), x.wants, x.d, x.in, x.cut)
	}
}

// A parent that is not there, or is no commit, is not in, and so its child is
// cut, however deep one looks.
func TestByOfHoles(t *testing.T) {
	s := shelfOf(holes)
	for _, x := range []struct {
		wants   string
		d       int
		in, cut string
	}{
		{"half", 1, "half", "half"}, {"half", 2, "half r", "half"}, {"half", 3, "half r", "half"}, {"half", -1, "half r", "half"}, {"half", 1000, "half r", "half"},
		{"lost1", 1, "lost1", "lost1"}, {"lost1", 2, "lost1", "lost1"}, {"lost1", -1, "lost1", "lost1"},
		{"ofBlob", 2, "ofBlob r", "ofBlob"}, {"ofTree", 2, "ofTree r", "ofTree"}, {"ofTree ofBlob", -1, "ofTree ofBlob r", "ofTree ofBlob"},
		{"ofZero", 9, "ofZero", "ofZero"}, {"ofZero zero", 9, "ofZero", "ofZero"}, {"half gone", 2, "half r", "half"}, {"blob ofBlob", 3, "ofBlob r", "ofBlob"},
		{"m", 1, "m", "m"}, {"m", 2, "m half lost1 ofBlob ofTree", "half lost1 ofBlob ofTree"}, {"m", 3, "m half lost1 ofBlob ofTree r", "half lost1 ofBlob ofTree"}, {"m", -1, "m half lost1 ofBlob ofTree r", "half lost1 ofBlob ofTree"},
		{"n", 2, "n m ofZero", "m ofZero"}, {"n", 1000, "n m half lost1 ofBlob ofTree ofZero r", "half lost1 ofBlob ofTree ofZero"},
	} {
		s.byIs(t, s.graph(), x.wants, x.d, x.in, x.cut)
	}
}

// What fails, fails of all graphs and wants.
func TestByOfWrongDepths(t *testing.T) {
	s := shelfOf(merge)
	graphs := noGraphs()
	graphs["a merge"] = s.graph()
	for what, g := range graphs {
		for _, wants := range []string{"", "top", "gone", "blob", "top tip old top"} {
			for _, d := range []int{0, 1001, 1002, 2000, math.MaxInt32, 1 << 32, 1<<32 + 1, math.MaxInt - 1, math.MaxInt} {
				if in, cut, e := depth.By(g, s.ids(wants), d); in != nil || cut != nil || e != api.ErrDepth {
					t.Errorf("P16.1: %s: By of %q, %d: %s, %s, %d", what, wants, d, s.says(in), s.says(cut), e)
				}
			}
		}
	}
}

func TestByOfNoGraph(t *testing.T) {
	s := shelfOf(merge)
	for what, g := range noGraphs() {
		for _, wants := range []string{"", "top", "gone zero", "blob", "top tip old top"} {
			for _, d := range append([]int{1, 2, 999, 1000}, all...) {
				if in, cut, e := depth.By(g, s.ids(wants), d); len(in) != 0 || len(cut) != 0 || e != api.OK {
					t.Errorf("P16.1: %s: By of %q, %d: %x, %x, %d", what, wants, d, in, cut, e)
				}
			}
		}
	}
}

// line is a graph of n commits, each the next one's parent, and their names.
func line(n int) (*walk.Graph, []api.Id) {
	g := walk.New()
	var ids []api.Id
	for at := range n {
		c := commitOf(api.Commit{When: float64(at)})
		if at > 0 {
			c.Commit.Parents = ids[at-1:]
		}
		ids = append(ids, name(c))
		g.Add(c)
	}
	return g, ids
}

// justLast asks that in is the last n of ids, and cut the first one of these, or
// nothing, if they are all.
func justLast(t *testing.T, what string, ids, in, cut []api.Id, n int) {
	t.Helper()
	rest := ids[max(0, len(ids)-n):]
	if !same(in, rest) {
		t.Errorf("P16.1: %s: in has %d", what, len(in))
	}
	if n >= len(ids) {
		rest = nil
	}
	if !same(cut, rest[:min(1, len(rest))]) {
		t.Errorf("P16.1: %s: cut has %d", what, len(cut))
	}
}

// same tells whether got has just the names of want, rising.
func same(got, want []api.Id) bool { return slices.Equal(got, rising(want)) }

func TestByOfALongLine(t *testing.T) {
	g, ids := line(1100)
	wants := ids[len(ids)-1:]
	for _, d := range []int{1, 2, 3, 500, 998, 999, 1000} {
		in, cut, e := depth.By(g, wants, d)
		if e != api.OK {
			t.Errorf("P16.1: By of a long line, %d: %d", d, e)
		}
		justLast(t, fmt.Sprint("By of a long line, ", d), ids, in, cut, d)
		in, cut, _ = depth.By(g, ids[:len(ids)-50], d)
		if !same(in, ids[:len(ids)-50]) || len(cut) != 0 {
			t.Errorf("P16.1: By of all of a long line, but its end, %d: %d, %d", d, len(in), len(cut))
		}
	}
	for _, d := range all {
		in, cut, _ := depth.By(g, wants, d)
		justLast(t, "By of all of a long line", ids, in, cut, len(ids))
	}
}

func TestByOfALongerLine(t *testing.T) {
	g, ids := line(100000)
	for _, d := range []int{math.MinInt, -1} {
		in, cut, e := depth.By(g, ids[len(ids)-1:], d)
		if !same(in, ids) || len(cut) != 0 || e != api.OK {
			t.Errorf("P0.1, P16.1: By of a line of %d: %d, %d, %d", len(ids), len(in), len(cut), e)
		}
	}
	in, cut, _ := depth.By(g, ids, 1)
	if !same(in, ids) || len(cut) != 0 {
		t.Errorf("P16.1: By of all of a line of %d: %d, %d", len(ids), len(in), len(cut))
	}
}

// ladder is a graph of n pairs of commits, both of which have both of the next
// older pair as parents: there are more ways than could be gone. Those of a pair
// stand beside one another.
func ladder(n int) (*walk.Graph, []api.Id) {
	g := walk.New()
	var ids []api.Id
	for at := range 2 * n {
		c := commitOf(api.Commit{When: float64(at / 2), Note: fmt.Sprint(at)})
		if at > 1 {
			c.Commit.Parents = ids[at/2*2-2 : at/2*2]
		}
		ids = append(ids, name(c))
		g.Add(c)
	}
	return g, ids
}

func TestByOfManyWays(t *testing.T) {
	g, ids := ladder(2000)
	for _, d := range []int{1, 2, 3, 999, 1000} {
		in, cut, e := depth.By(g, ids[len(ids)-2:], d)
		from := len(ids) - 2*d
		if !same(in, ids[from:]) || !same(cut, ids[from:from+2]) || e != api.OK {
			t.Errorf("P0.1, P16.1: By of many ways, %d: %d, %d, %d", d, len(in), len(cut), e)
		}
	}
	in, cut, _ := depth.By(g, ids[len(ids)-1:], -1)
	if !same(in, append(ids[:len(ids)-2:len(ids)-2], ids[len(ids)-1])) || len(cut) != 0 {
		t.Errorf("P0.1, P16.1: By of many ways: %d, %d", len(in), len(cut))
	}
}

package depth_test

import (
	"fmt"
	"math"
	"slices"
	"strings"
	"testing"

	"colporteur/api"
	"colporteur/depth"
	"colporteur/walk"
)

// sinceIs asks Since of s, and what it tells.
func (s shelf) sinceIs(t *testing.T, g *walk.Graph, wants string, since float64, in, cut string) {
	t.Helper()
	gotIn, gotCut, e := depth.Since(g, s.ids(wants), since)
	what := fmt.Sprintf("Since of %q, %v", wants, since)
	if e != api.OK {
		t.Errorf("P16.1: %s: %d", what, e)
	}
	s.rises(t, what+": in", gotIn, in)
	s.rises(t, what+": cut", gotCut, cut)
}

var lowNought = math.Copysign(0, -1)

// early are times ahead of all of the histories, late ones are behind all.
var (
	early = []float64{-math.MaxFloat64, -1e300, -1, -math.SmallestNonzeroFloat64, lowNought, 0, math.SmallestNonzeroFloat64, 0.5}
	late  = []float64{8.5, 100, 1e300, math.MaxFloat64}
)

// Every commit of a chain, at times on either side of every commit's own, and at
// that itself.
func TestSinceOfAChain(t *testing.T) {
	s := shelfOf(chain)
	g := s.graph()
	labels := strings.Fields("a b c d e f g h")
	for at, want := range labels {
		for made := 1; made <= len(labels); made++ {
			own := float64(made)
			for since, first := range map[float64]int{own: made - 1, math.Nextafter(own, 0): made - 1, own - 0.25: made - 1, math.Nextafter(own, 9): made, own + 0.25: made} {
				// What is wanted is in, whenever it was made.
				first = min(first, at)
				cut := ""
				if first > 0 {
					cut = labels[first]
				}
				s.sinceIs(t, g, want, since, strings.Join(labels[first:at+1], " "), cut)
			}
		}
		for _, since := range append(early, 1) {
			s.sinceIs(t, g, want, since, strings.Join(labels[:at+1], " "), "")
		}
		cut := want
		if at == 0 {
			cut = ""
		}
		for _, since := range late {
			s.sinceIs(t, g, want, since, want, cut)
		}
	}
}

func TestSinceOfSome(t *testing.T) {
	s := shelfOf(chain)
	g := s.graph()
	for _, x := range []struct {
		wants   string
		since   float64
		in, cut string
	}{
		{"", 0, "", ""}, {"", 9, "", ""}, {"", -1, "", ""},
		{"h h", 7, "g h", "g"}, {"h c h c", 7, "c g h", "c g"}, {"c d", 9, "c d", "c"}, {"d c", 9, "c d", "c"}, {"b h", 3, "b c d e f g h", "b"}, {"h b", 4, "b d e f g h", "b d"}, {"a h", 8, "a h", "h"}, {"b h", 3.5, "b d e f g h", "b d"}, {"a b c d e f g h", 99, "a b c d e f g h", ""},
		{"gone", 0, "", ""}, {"gone zero blob tree", 0, "", ""}, {"gone h blob", 8, "h", "h"}, {"tree h zero h", 7, "g h", "g"},
	} {
		s.sinceIs(t, g, x.wants, x.since, x.in, x.cut)
	}
}

func TestSinceOfHoles(t *testing.T) {
	s := shelfOf(holes)
	for _, x := range []struct {
		wants   string
		since   float64
		in, cut string
	}{
		{"half", 0, "half r", "half"}, {"half", 1, "half r", "half"}, {"half", 1.5, "half", "half"}, {"half", 99, "half", "half"}, {"lost1", 0, "lost1", "lost1"}, {"lost1", 99, "lost1", "lost1"}, {"ofZero zero", 0, "ofZero", "ofZero"}, {"r", 99, "r", ""},
		{"ofBlob ofTree", 0, "ofBlob ofTree r", "ofBlob ofTree"}, {"m", 0, "m half lost1 ofBlob ofTree r", "half lost1 ofBlob ofTree"}, {"m", 3, "m lost1 ofBlob ofTree", "m lost1 ofBlob ofTree"}, {"m", 6, "m", "m"},
		{"n", 6, "n m ofZero", "m ofZero"}, {"n r", 2, "n m ofZero half lost1 ofBlob ofTree r", "ofZero half lost1 ofBlob ofTree"},
	} {
		s.sinceIs(t, s.graph(), x.wants, x.since, x.in, x.cut)
	}
}

// One that was made before stops it, whatever was made when behind it, unless
// another way leads past it, or it is wanted.
func TestSinceOfTimesThatFallAndRise(t *testing.T) {
	s := shelfOf("young@9 old@1:young y2@8:old older@0:y2 y3@9:older past@5:y2 m@7:old,past both@7:y3,past")
	for _, x := range []struct {
		wants   string
		since   float64
		in, cut string
	}{
		{"y3", 5, "y3", "y3"}, {"y3", 0, "y3 older y2 old young", ""}, {"y3", 0.5, "y3", "y3"}, {"y2", 5, "y2", "y2"}, {"y2", 1, "y2 old young", ""}, {"y2", 1.5, "y2", "y2"},
		{"old", 5, "old young", ""}, {"old", 9, "old young", ""}, {"old", 9.5, "old", "old"}, {"older", 5, "older y2", "y2"}, {"older", 1, "older y2 old young", ""}, {"older", 8.5, "older", "older"}, {"older old", 8, "older y2 old young", ""},
		{"m", 5, "m past y2", "m y2"}, {"m", 5.5, "m", "m"}, {"m", 1, "m past y2 old young", ""}, {"m old", 5, "m past y2 old young", ""}, {"old m", 6, "m old young", "m"},
		{"both", 5, "both y3 past y2", "y3 y2"}, {"both", 6, "both y3", "both y3"}, {"both", 8, "both y3", "both y3"}, {"both", 9.5, "both", "both"}, {"y3 past", 8.5, "y3 past", "y3 past"}, {"past y3", 8, "y3 past y2", "y3 y2"}, {"both m older young", 8, "both m older young y3 y2", "both m y2"},
	} {
		s.sinceIs(t, s.graph(), x.wants, x.since, x.in, x.cut)
	}
	m := shelfOf(merge)
	for _, x := range []struct {
		wants   string
		since   float64
		in, cut string
	}{
		{"top", 1, "old root s l1 l2 l3 tip top", ""}, {"top", 2, "root s l1 l2 l3 tip top", "root"}, {"top", 3, "s l1 l2 l3 tip top", "s l1"}, {"top", 4, "l1 l2 l3 tip top", "l1 tip"}, {"top", 5, "l2 l3 tip top", "l2 tip"}, {"top", 7, "tip top", "tip"}, {"top", 8, "top", "top"}, {"l3 s", 2, "root s l1 l2 l3", "root"},
	} {
		m.sinceIs(t, m.graph(), x.wants, x.since, x.in, x.cut)
	}
}

// What is reached by a way through one that was made before, and by a way past
// it, is in by the latter, in whichever order they stand.
func TestSinceOfAWayThroughAndAWayPast(t *testing.T) {
	for _, parents := range []string{"before,past", "past,before"} {
		s := shelfOf("first@5 base@9:first before@1:base past@6:base tip@8:" + parents)
		for since, want := range map[float64][2]string{1: {"tip before past base first", ""}, 2: {"tip past base first", "tip"}, 5.5: {"tip past base", "tip base"}, 6: {"tip past base", "tip base"}, 6.5: {"tip", "tip"}} {
			s.sinceIs(t, s.graph(), "tip", since, want[0], want[1])
		}
	}
}

// times are such as commits may be made at, falling.
var times = []float64{
	math.MaxFloat64, math.Nextafter(math.MaxFloat64, 0), 1e300, math.Nextafter(1, 2), 1, math.Nextafter(1, 0), 2 * math.SmallestNonzeroFloat64, math.SmallestNonzeroFloat64, 0,
	-math.SmallestNonzeroFloat64, -2 * math.SmallestNonzeroFloat64, -1, -1e300, math.Nextafter(-math.MaxFloat64, 0), -math.MaxFloat64,
}

// A chain that was made at the edges of what a time may be.
func TestSinceOfEdges(t *testing.T) {
	g := walk.New()
	var ids []api.Id
	for _, made := range slices.Backward(times) {
		c := commitOf(api.Commit{When: made})
		if len(ids) > 0 {
			c.Commit.Parents = ids[len(ids)-1:]
		}
		ids = append(ids, name(c))
		g.Add(c)
	}
	tip := ids[len(ids)-1:]
	for at, since := range times {
		in, cut, e := depth.Since(g, tip, since)
		if e != api.OK {
			t.Errorf("P16.1: Since %v: %d", since, e)
		}
		justLast(t, fmt.Sprint("Since ", since), ids, in, cut, at+1)
	}
	in, cut, e := depth.Since(g, tip, lowNought)
	if e != api.OK {
		t.Errorf("P16.1: Since -0: %d", e)
	}
	justLast(t, "Since -0", ids, in, cut, slices.Index(times, 0)+1)
}

// What fails, fails of all graphs and wants.
func TestSinceOfWrongTimes(t *testing.T) {
	s := shelfOf(merge)
	graphs := noGraphs()
	graphs["a merge"] = s.graph()
	for what, g := range graphs {
		for _, wants := range []string{"", "top", "gone", "blob", "top tip old top"} {
			for _, since := range []float64{math.NaN(), -math.NaN(), math.Float64frombits(0x7FF8000000000001), math.Float64frombits(0x7FF0000000000001), math.Float64frombits(0xFFFFFFFFFFFFFFFF), math.Inf(1), math.Inf(-1)} {
				if in, cut, e := depth.Since(g, s.ids(wants), since); in != nil || cut != nil || e != api.ErrDepth {
					t.Errorf("P16.1: %s: Since of %q, %v: %s, %s, %d", what, wants, since, s.says(in), s.says(cut), e)
				}
			}
		}
	}
}

func TestSinceOfNoGraph(t *testing.T) {
	s := shelfOf(merge)
	for what, g := range noGraphs() {
		for _, wants := range []string{"", "top", "gone zero", "blob", "top tip old top"} {
			for _, since := range slices.Concat(times, early, late) {
				if in, cut, e := depth.Since(g, s.ids(wants), since); len(in) != 0 || len(cut) != 0 || e != api.OK {
					t.Errorf("P16.1: %s: Since of %q, %v: %x, %x, %d", what, wants, since, in, cut, e)
				}
			}
		}
	}
}

func TestSinceOfLongHistories(t *testing.T) {
	g, ids := line(100000)
	for _, n := range []int{1, 2, 1001, 99999, 100000} {
		in, cut, e := depth.Since(g, ids[len(ids)-1:], float64(len(ids)-n))
		if e != api.OK {
			t.Errorf("P0.1, P16.1: Since of a line of %d: %d", len(ids), e)
		}
		justLast(t, fmt.Sprint("Since of a long line, ", n), ids, in, cut, n)
	}
	g, ids = ladder(2000)
	in, cut, _ := depth.Since(g, ids[len(ids)-2:], 0)
	if !same(in, ids) || len(cut) != 0 {
		t.Errorf("P0.1, P16.1: Since of many ways: %d, %d", len(in), len(cut))
	}
	in, cut, _ = depth.Since(g, ids[len(ids)-2:], 500)
	if !same(in, ids[1000:]) || !same(cut, ids[1000:1002]) {
		t.Errorf("P16.1: Since of many ways, from 500 on: %d, %d", len(in), len(cut))
	}
}

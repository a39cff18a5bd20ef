package depth_test

import (
	"fmt"
	"strings"
	"testing"

	"colporteur/depth"
)

// stopIs asks Stop of s, and what it tells.
func (s shelf) stopIs(t *testing.T, wants, shallow, want string) {
	t.Helper()
	got := depth.Stop(s.graph(), s.ids(wants), s.ids(shallow))
	s.rises(t, fmt.Sprintf("Stop of %q, %q", wants, shallow), got, want)
}

func TestStopOfAChain(t *testing.T) {
	s := shelfOf(chain)
	labels := strings.Fields("a b c d e f g h")
	for at, want := range labels {
		s.stopIs(t, want, "", strings.Join(labels[:at+1], " "))
		for end, shallow := range labels {
			first := end
			if end > at {
				first = 0
			}
			s.stopIs(t, want, shallow, strings.Join(labels[first:at+1], " "))
			s.stopIs(t, want+" "+want, shallow+" gone a "+shallow, strings.Join(labels[first:at+1], " "))
		}
	}
	for _, x := range []struct{ wants, shallow, want string }{
		{"", "", ""}, {"", "c", ""}, {"", "a b c d e f g h gone zero blob", ""},
		{"h", "b f", "f g h"}, {"h", "f b d", "f g h"}, {"h", "h c", "h"}, {"h", "g h a", "h"}, {"h", "a", "a b c d e f g h"},
		{"h c", "f", "a b c f g h"}, {"c h", "f", "a b c f g h"}, {"h c", "b f", "b c f g h"}, {"h e", "f", "a b c d e f g h"}, {"h e", "e", "e f g h"}, {"e h", "e", "e f g h"}, {"e h", "e g", "e g h"}, {"c e g", "c e g", "c e g"}, {"d c", "d", "a b c d"}, {"c d", "d", "a b c d"},
		{"h g f e d c b a", "h g f e d c b a", "a b c d e f g h"},
		{"h", "gone", "a b c d e f g h"}, {"h", "gone zero blob tree", "a b c d e f g h"}, {"h", "gone e blob", "e f g h"}, {"gone", "gone", ""}, {"blob tree zero", "", ""}, {"blob tree gone", "blob tree gone", ""}, {"gone c blob", "zero b tree", "b c"},
	} {
		s.stopIs(t, x.wants, x.shallow, x.want)
	}
}

// What lies behind a shallow one is reached by another way past it.
func TestStopOfAMerge(t *testing.T) {
	for _, commits := range []string{merge, strings.ReplaceAll(merge, "s,l3", "l3,s")} {
		s := shelfOf(commits)
		for _, x := range []struct{ wants, shallow, want string }{
			{"top", "", "old root s l1 l2 l3 tip top"}, {"top", "s", "old root s l1 l2 l3 tip top"}, {"top", "l3", "old root s l3 tip top"}, {"top", "l2", "old root s l2 l3 tip top"}, {"top", "l1", "old root s l1 l2 l3 tip top"},
			{"top", "s l3", "s l3 tip top"}, {"top", "s l1", "s l1 l2 l3 tip top"}, {"top", "root", "root s l1 l2 l3 tip top"}, {"top", "tip", "tip top"}, {"top", "top", "top"}, {"top", "tip s", "tip top"}, {"top", "old", "old root s l1 l2 l3 tip top"},
			{"top l2", "tip", "old root l1 l2 tip top"}, {"l2 top", "tip l2", "l2 tip top"}, {"root tip", "s l3", "old root s l3 tip"}, {"tip s", "s l2", "s l2 l3 tip"}, {"top root", "root", "root s l1 l2 l3 tip top"}, {"old top", "tip root", "old tip top"},
		} {
			s.stopIs(t, x.wants, x.shallow, x.want)
		}
	}
}

func TestStopOfHoles(t *testing.T) {
	s := shelfOf(holes)
	for _, x := range []struct{ wants, shallow, want string }{
		{"half", "", "half r"}, {"half", "half", "half"}, {"half", "gone", "half r"}, {"lost1", "lost", "lost1"}, {"ofZero", "zero", "ofZero"}, {"ofBlob ofTree", "blob tree", "ofBlob ofTree r"}, {"ofBlob ofTree", "ofBlob ofTree", "ofBlob ofTree"},
		{"m", "", "m half lost1 ofBlob ofTree r"}, {"m", "half", "m half lost1 ofBlob ofTree r"}, {"m", "ofBlob half", "m half lost1 ofBlob ofTree r"}, {"m", "ofTree ofBlob half", "m half lost1 ofBlob ofTree"}, {"n", "m", "n m ofZero"}, {"n zero", "r ofZero gone", "n m ofZero half lost1 ofBlob ofTree r"},
	} {
		s.stopIs(t, x.wants, x.shallow, x.want)
	}
}

func TestStopOfNoGraph(t *testing.T) {
	s := shelfOf(merge)
	for what, g := range noGraphs() {
		for _, wants := range []string{"", "top", "gone zero blob", "top tip old top"} {
			for _, shallow := range []string{"", "top", "old tip zero", "gone"} {
				if got := depth.Stop(g, s.ids(wants), s.ids(shallow)); len(got) != 0 {
					t.Errorf("P16.1: %s: Stop of %q, %q: %s", what, wants, shallow, s.says(got))
				}
			}
		}
	}
}

func TestStopOfLongHistories(t *testing.T) {
	g, ids := line(100000)
	tip := ids[len(ids)-1:]
	if got := depth.Stop(g, tip, nil); !same(got, ids) {
		t.Errorf("P0.1, P16.1: Stop of a line of %d: %d", len(ids), len(got))
	}
	if got := depth.Stop(g, tip, ids[:40001]); !same(got, ids[40000:]) {
		t.Errorf("P16.1: Stop of a line of %d, of which 40001 are shallow: %d", len(ids), len(got))
	}
	if got := depth.Stop(g, ids, ids); !same(got, ids) {
		t.Errorf("P16.1: Stop of all of a line of %d, all shallow: %d", len(ids), len(got))
	}
	g, ids = ladder(2000)
	last := len(ids) - 2
	if got := depth.Stop(g, ids[last:], nil); !same(got, ids) {
		t.Errorf("P0.1, P16.1: Stop of many ways: %d", len(got))
	}
	if got := depth.Stop(g, ids[last:], ids[1000:1001]); !same(got, ids) {
		t.Errorf("P16.1: Stop of many ways, one of a pair shallow: %d", len(got))
	}
	if got := depth.Stop(g, ids[last:], ids[1000:1002]); !same(got, ids[1000:]) {
		t.Errorf("P16.1: Stop of many ways, a pair shallow: %d", len(got))
	}
}

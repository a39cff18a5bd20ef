package depth_test

import (
	"fmt"
	"slices"
	"strings"
	"testing"

	"colporteur/api"
	"colporteur/depth"
)

// mergeIs asks Merge of names by labels, and what it tells.
func mergeIs(t *testing.T, old, in, cut, shallow, gone string) {
	t.Helper()
	s := shelfOf(chain)
	gotShallow, gotGone := depth.Merge(s.ids(old), s.ids(in), s.ids(cut))
	what := fmt.Sprintf("Merge of %q, %q, %q", old, in, cut)
	s.rises(t, what+": shallow", gotShallow, shallow)
	s.rises(t, what+": gone", gotGone, gone)
}

func TestMerge(t *testing.T) {
	for _, x := range []struct{ old, in, cut, shallow, gone string }{
		{"", "", "", "", ""},
		// One alone.
		{"a", "", "", "a", ""}, {"", "a", "", "", ""}, {"", "", "a", "a", ""},
		{"a", "a", "", "", "a"}, {"a", "", "a", "a", ""}, {"", "a", "a", "a", ""}, {"a", "a", "a", "a", ""},
		{"a", "b", "", "a", ""}, {"a", "b", "b", "a b", ""}, {"a", "b", "c", "a c", ""}, {"a", "a", "b", "b", "a"}, {"a", "a b", "b", "b", "a"}, {"a", "a b", "a", "a", ""}, {"a", "a b", "a b", "a b", ""},
		// A deeper fetch, a shallower one, one of something else, one of the same.
		{"e", "c d e f g h", "c", "c", "e"}, {"c", "e f g h", "e", "c e", ""}, {"b d", "f g", "f", "b d f", ""}, {"b d", "b c d e", "b", "b", "d"}, {"b d", "b c d e", "b d", "b d", ""}, {"d b", "a b c d", "", "", "b d"},
		// Twice, and not rising.
		{"h a h d a", "d a d", "", "h", "a d"}, {"h a h d a", "d a d", "a a", "a h", "d"}, {"h h", "", "g a g", "a g h", ""}, {"c b a c b a", "a c a c", "c c", "b c", "a"}, {"a a a", "a", "a a", "a", ""}, {"", "h h a", "h a h", "a h", ""},
		// All of them are names, be they what they may.
		{"zero gone", "gone", "lost", "zero lost", "gone"}, {"zero", "zero", "zero", "zero", ""}, {"zero", "zero", "", "", "zero"}, {"blob tree", "tree", "blob", "blob", "tree"},
	} {
		mergeIs(t, x.old, x.in, x.cut, x.shallow, x.gone)
	}
}

// Whatever of the three lists each of eight names stands in.
func TestMergeOfAll(t *testing.T) {
	labels := strings.Fields("a b c d e f g h")
	for turn := range labels {
		var old, in, cut, shallow, gone []string
		for at, label := range labels {
			lists := (at + turn) % 8
			isOld, isIn, isCut := lists&1 > 0, lists&2 > 0, lists&4 > 0
			for list, isOne := range map[*[]string]bool{&old: isOld, &in: isIn, &cut: isCut, &shallow: isCut || isOld && !isIn, &gone: isOld && isIn && !isCut} {
				if isOne {
					*list = append(*list, label)
				}
			}
		}
		slices.Reverse(in)
		told := func(list []string) string { return strings.Join(list, " ") }
		mergeIs(t, told(old), told(in), told(cut), told(shallow), told(gone))
		mergeIs(t, told(append(old, old...)), told(append(in, in...)), told(append(cut, cut...)), told(shallow), told(gone))
	}
}

func TestMergeOfLongLists(t *testing.T) {
	_, ids := line(120000)
	slices.SortFunc(ids, func(a, b api.Id) int { return -slices.Compare(a[:], b[:]) })
	old, in, cut := ids[:80000], ids[40000:], ids[60000:100000]
	shallow, gone := depth.Merge(old, in, cut)
	if !same(shallow, slices.Concat(ids[:40000], ids[60000:100000])) || !same(gone, ids[40000:60000]) {
		t.Errorf("P0.1, P16.1: Merge of long lists: %d, %d", len(shallow), len(gone))
	}
}

// A list that is nil is one that is empty.
func TestEmptyLists(t *testing.T) {
	s := shelfOf(merge)
	g := s.graph()
	some := s.ids("tip s")
	for what, none := range map[string][]api.Id{"nil": nil, "empty": {}, "with room": roomy([]api.Id{}, some...)} {
		for _, old := range [][]api.Id{none, some} {
			for _, in := range [][]api.Id{none, some} {
				for _, cut := range [][]api.Id{none, some} {
					shallow, gone := depth.Merge(old, in, cut)
					wantShallow, wantGone := depth.Merge(slices.Clone(old), append([]api.Id(nil), in...), append([]api.Id(nil), cut...))
					if !slices.Equal(shallow, wantShallow) || !slices.Equal(gone, wantGone) {
						t.Errorf("P0.4: %s: Merge of %x, %x, %x", what, old, in, cut)
					}
				}
			}
		}
		in, cut, e := depth.By(g, none, 3)
		in2, cut2, e2 := depth.Since(g, none, 3)
		if len(in)+len(cut)+len(in2)+len(cut2) != 0 || e != api.OK || e2 != api.OK || len(depth.Stop(g, none, some)) != 0 {
			t.Errorf("P0.4: %s: By, Since or Stop of no wants", what)
		}
		s.rises(t, what+": Stop of none that are shallow", depth.Stop(g, some, none), "tip s l1 l2 l3 root old")
	}
}

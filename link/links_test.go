package link_test

import (
	"fmt"
	"slices"
	"strings"
	"testing"

	"colporteur/api"
	"colporteur/store"
)

// lackers has n objects of the kinds that link, under labels of their own; each
// lacks two links, named by its label and "first", "second".
func lackers(n int) (s shelf, labels string) {
	s = shelf{}
	s.tree("empty", "")
	var all []string
	for at := range n {
		label := fmt.Sprint("o", at)
		first, second := label+"first", label+"second"
		switch at % 3 {
		case 0:
			s.tree(label, "a="+first+" b/="+second)
		case 1:
			s.commit(label, first, second)
		case 2:
			s.commit(label, "empty", first+" "+second)
		}
		all = append(all, label)
	}
	return s, strings.Join(all, " ")
}

// lacked are both links of each of those.
func lacked(lackers []string) string {
	var found []string
	for _, label := range lackers {
		found = append(found, label+"first", label+"second")
	}
	return strings.Join(found, " ")
}

// Of links that are away of several objects the first one of the least object is
// told, in whichever order the objects stand.
func TestFirstLink(t *testing.T) {
	s, labels := lackers(12)
	all := strings.Fields(s.but(""))
	c := coin(1)
	order := s.byId(labels)
	for at, label := range order {
		done := order[:at]
		for range 10 {
			objects := strings.Join(mixed(&c, all), " ")
			promised := strings.Join(mixed(&c, done), " ")
			s.lacks(t, words{objects: objects, promised: promised}, label+"first", lacked(done))
			s.lacks(t, words{objects: strings.Join(mixed(&c, order[at:]), " ") + " empty"}, label+"first", "")
		}
	}
	s.whole(t, words{objects: s.but(""), promised: labels}, lacked(order))
}

// The least of the names that are away is not the first one to be told.
func TestFirstLinkIsByThoseThatLink(t *testing.T) {
	s := shelf{}
	s.tree("one", "a=gone b=lost")
	s.tree("two", "a=lost b=gone")
	s.tree("three", "a=zero")
	s.tree("four", "a=away b=zero")
	first := map[string]string{"one": "gone", "two": "lost", "three": "zero", "four": "away"}
	left := s.byId("one two three four")
	for len(left) > 0 {
		s.lacks(t, words{objects: strings.Join(left, " ")}, first[left[0]], "")
		left = left[1:]
	}
}

// orders are all orders of list.
func orders[E any](list []E) [][]E {
	if len(list) == 0 {
		return [][]E{nil}
	}
	var found [][]E
	for at := range list {
		for _, rest := range orders(slices.Concat(list[:at], list[at+1:])) {
			found = append(found, append([]E{list[at]}, rest...))
		}
	}
	return found
}

// Of a house that lacks something all orders of what is there tell the same.
func TestAllOrders(t *testing.T) {
	s := house()
	// b is away, of root and flat, and c, of cellar.
	first := map[string]string{"root": "b", "flat": "b", "cellar": "c"}[s.byId("root flat cellar")[0]]
	for _, list := range orders(strings.Fields("root flat cellar a empty first second")) {
		w := words{objects: strings.Join(list, " "), refs: "m=second"}
		s.tells(t, fmt.Sprintf("%+v", w), s.state(w), api.ErrLink, s.id(first), nil)
		w.promised = "cellar flat root"
		s.tells(t, fmt.Sprintf("%+v", w), s.state(w), api.OK, api.Id{}, rising(s.ids("b c")))
	}
}

// One object twice, and more often, is as one that is there once.
func TestOneObjectTwice(t *testing.T) {
	s := house()
	s.whole(t, words{objects: "a a"}, "")
	s.whole(t, words{objects: "empty empty empty"}, "")
	s.whole(t, words{objects: "root cellar root a b c b cellar a", promised: "root root"}, "")
	s.lacks(t, words{objects: "root cellar root a c c cellar a"}, "b", "")
	s.whole(t, words{objects: "root cellar root a c c cellar a", promised: "root root"}, "b")
	s.whole(t, words{objects: "root root root", promised: "root"}, "b cellar")
	s.whole(t, words{objects: "second flat second a empty b second flat", shallow: "second", refs: "m=second"}, "")
}

// The Parents of a shallow commit may be away, its Tree may not, nor what that
// links to.
func TestLinksOfShallow(t *testing.T) {
	s := house()
	for _, label := range []string{"p1", "p2", "p3", "p4"} {
		s.commit(label, "empty", "")
	}
	parents := strings.Fields("p1 p2 p3 p4")
	s.commit("merge", "root", strings.Join(parents, " "))
	tree := " merge root b cellar a c empty "
	for bits := range 1 << len(parents) {
		var there, away []string
		for at, label := range parents {
			if bits>>at&1 == 1 {
				there = append(there, label)
			} else {
				away = append(away, label)
			}
		}
		objects := tree + strings.Join(there, " ")
		for _, shallow := range []string{"merge", "merge merge", strings.Join(there, " ") + " merge"} {
			w := words{objects: objects, shallow: shallow, refs: "m=merge"}
			s.whole(t, w, "")
			w.promised = "merge"
			s.whole(t, w, "")
			w.promised = "cellar " + strings.Join(there, " ")
			s.whole(t, w, "")
			for _, x := range []struct{ away, from string }{{"root", "merge"}, {"b", "root"}, {"cellar", "root"}, {"a", "cellar"}, {"c", "cellar"}} {
				w := words{objects: strings.ReplaceAll(objects, " "+x.away+" ", " "), shallow: shallow}
				s.lacks(t, w, x.away, "")
				w.promised = x.from
				s.whole(t, w, x.away)
			}
		}
		if len(away) > 0 {
			w := words{objects: objects, shallow: strings.Join(there, " ")}
			s.lacks(t, w, away[0], "")
			w.promised = "merge"
			s.whole(t, w, strings.Join(away, " "))
		}
	}
}

// What is shallow without need changes nothing.
func TestShallowWithoutNeed(t *testing.T) {
	s := house()
	for _, shallow := range []string{"first", "second", "third", "first second third"} {
		s.whole(t, words{objects: s.but(""), shallow: shallow}, "")
		for _, away := range []string{"a", "b", "c"} {
			s.lacks(t, words{objects: s.but(away), shallow: shallow}, away, "")
			s.lacks(t, words{objects: s.but(away), shallow: shallow, promised: "first second third"}, away, "")
			s.whole(t, words{objects: s.but(away), shallow: shallow, promised: "root cellar flat"}, away)
		}
	}
}

// Those Parents alone may be away that are a shallow one's.
func TestParentsOfOthers(t *testing.T) {
	s := house()
	s.lacks(t, words{objects: s.but("first"), shallow: "third"}, "first", "")
	s.lacks(t, words{objects: s.but("second"), shallow: "first"}, "second", "")
	s.whole(t, words{objects: s.but("second"), shallow: "first", promised: "third"}, "second")
	// Two of them lack one Parent.
	s.whole(t, words{objects: s.but("first"), shallow: "third second"}, "")
	s.lacks(t, words{objects: s.but("first"), shallow: "second"}, "first", "")
	s.lacks(t, words{objects: s.but("first"), shallow: "second", promised: "second"}, "first", "")
	s.whole(t, words{objects: s.but("first"), shallow: "second", promised: "third"}, "first")
}

// A Parent that bears the Tree's name, too, is cut off; the Tree is not.
func TestTreeAndParentOfOneName(t *testing.T) {
	s := shelf{}
	s.commit("both", "gone", "lost gone")
	s.tree("empty", "")
	s.commit("there", "empty", "gone empty")
	s.lacks(t, words{objects: "both"}, "gone", "")
	s.lacks(t, words{objects: "both", shallow: "both"}, "gone", "")
	s.whole(t, words{objects: "both", shallow: "both", promised: "both"}, "gone")
	s.whole(t, words{objects: "both", promised: "both"}, "gone lost")
	s.lacks(t, words{objects: "there empty"}, "gone", "")
	s.whole(t, words{objects: "there empty", shallow: "there"}, "")
	s.whole(t, words{objects: "there empty", promised: "there"}, "gone")
	s.lacks(t, words{objects: "there", shallow: "there"}, "empty", "")
}

// What links lead to must be there, of whatever kind.
func TestLinksToOtherKinds(t *testing.T) {
	s := house()
	s.tree("liar", "blob/=b commit=first tree=cellar what/=third")
	s.commit("ofBlob", "b", "")
	s.commit("ofCommit", "first", "")
	s.commit("behindBlob", "empty", "a")
	s.commit("behindTree", "empty", "root cellar third")
	all := s.but("")
	for _, promised := range []string{"", all, "liar", "ofBlob ofCommit behindBlob behindTree"} {
		for _, shallow := range []string{"", "first", "ofBlob ofCommit behindBlob behindTree"} {
			s.whole(t, words{objects: all, promised: promised, shallow: shallow, refs: "a=ofBlob b=behindTree c=behindBlob"}, "")
		}
	}
	for _, x := range []struct{ from, links, rest string }{
		{"liar", "b first cellar third", "a b c cellar first root third second empty flat"}, {"ofBlob", "b", "b"}, {"ofCommit", "first", "first root b cellar a c"},
		{"behindBlob", "empty a", "empty a"}, {"behindTree", "empty root cellar third", "empty root cellar third first second a b c flat"},
	} {
		s.whole(t, words{objects: x.from + " " + x.rest}, "")
		for link := range strings.FieldsSeq(x.links) {
			rest := strings.Join(slices.DeleteFunc(strings.Fields(x.rest), func(l string) bool { return l == link }), " ")
			s.lacks(t, words{objects: x.from + " " + rest, promised: rest}, link, s.linked("empty "+rest, link))
			s.whole(t, words{objects: x.from + " " + rest, promised: rest + " " + x.from}, link)
		}
	}
	// A Parent that is no commit is cut off like any other.
	s.whole(t, words{objects: "behindBlob empty", shallow: "behindBlob"}, "")
	s.whole(t, words{objects: "behindTree empty root b", shallow: "behindTree", promised: "root"}, "cellar")
}

// The zero Id is a name as any other one.
func TestZeroLinks(t *testing.T) {
	s := shelf{}
	s.tree("empty", "")
	s.tree("ofZero", "a=zero")
	s.commit("noTree", "zero", "")
	s.commit("noParent", "empty", "zero")
	for _, from := range []string{"ofZero", "noTree", "noParent"} {
		s.lacks(t, words{objects: from + " empty"}, "zero", "")
		s.lacks(t, words{objects: from + " empty", promised: "zero"}, "zero", "")
		s.whole(t, words{objects: from + " empty", promised: from}, "zero")
	}
	s.whole(t, words{objects: "noParent empty", shallow: "noParent"}, "")
}

// line is a history of n commits, each with a tree and a blob of its own, the
// oldest one first; tips are its commits.
func line(n int) (os []api.Object, tips []api.Id) {
	for at := range n {
		b := blobOf(fmt.Sprint(at))
		tree := treeOf(api.Entry{Name: "b", Id: name(b)})
		c := commitOf(api.Commit{Tree: name(tree), Parents: slices.Clone(tips[max(0, at-1):]), When: float64(at)})
		os, tips = append(os, b, tree, c), append(tips, name(c))
	}
	return os, tips
}

func TestLongLine(t *testing.T) {
	s := shelf{}
	os, tips := line(2000)
	last := api.Ref{Name: "m", Id: tips[len(tips)-1]}
	whole := store.State{Objects: os, Refs: []api.Ref{last}}
	s.tells(t, "a long line", whole, api.OK, api.Id{}, nil)
	s.tells(t, "a long line, turned", turned(whole), api.OK, api.Id{}, nil)
	for _, at := range []int{1, 2, 1000, 1500, 1999} {
		x := store.State{Objects: os[3*at:], Refs: []api.Ref{last}}
		s.tells(t, "a line cut off", x, api.ErrLink, tips[at-1], nil)
		x.Shallow = tips[at : at+1]
		s.tells(t, "a shallow line", x, api.OK, api.Id{}, nil)
		x.Shallow = tips[at+1:]
		s.tells(t, "a line, cut off ahead of the shallow ones", x, api.ErrLink, tips[at-1], nil)
		x.Shallow, x.Promised = nil, tips[at:]
		s.tells(t, "a line of promised commits", x, api.OK, api.Id{}, tips[at-1:at])
		x = store.State{Objects: slices.Concat(os[:3*at], os[3*at+1:]), Refs: []api.Ref{last}, Shallow: tips, Promised: tips}
		s.tells(t, "a line that lacks a blob", x, api.ErrLink, name(os[3*at]), nil)
		x.Promised = names(os[3*at+1])
		s.tells(t, "a line that lacks a blob of a promised tree", x, api.OK, api.Id{}, names(os[3*at]))
	}
}

func TestVeryLongLine(t *testing.T) {
	s := shelf{}
	os, tips := line(25000)
	x := store.State{Objects: os, Shallow: tips, Promised: names(os...), Refs: []api.Ref{{Name: "m", Id: tips[24999]}}}
	for _, id := range tips {
		x.Refs = append(x.Refs, api.Ref{Name: string(id[:]), Id: id})
	}
	s.tells(t, "a very long line", x, api.OK, api.Id{}, nil)
	x.Shallow, x.Promised, x.Objects = nil, nil, os[3:]
	x.Refs = x.Refs[:1]
	s.tells(t, "a very long line, cut off", x, api.ErrLink, tips[0], nil)
}

// A tree within a tree, and so on.
func TestDeepTrees(t *testing.T) {
	s := shelf{}
	var os []api.Object
	o := blobOf("deep")
	for range 20000 {
		os = append(os, o)
		o = treeOf(api.Entry{Name: "t", Tree: true, Id: name(o)})
	}
	os = append(os, o)
	s.tells(t, "deep trees", store.State{Objects: os}, api.OK, api.Id{}, nil)
	s.tells(t, "deep trees without the blob", store.State{Objects: os[1:]}, api.ErrLink, name(os[0]), nil)
	s.tells(t, "deep trees, promised", store.State{Objects: os[1:], Promised: names(os[1])}, api.OK, api.Id{}, names(os[0]))
}

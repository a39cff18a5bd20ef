package link_test

import (
	"fmt"
	"strings"
	"testing"

	"colporteur/api"
	"colporteur/link"
	"colporteur/store"
)

func TestNothing(t *testing.T) {
	s := shelf{}
	s.whole(t, words{}, "")
	s.whole(t, words{promised: "gone zero lost"}, "")
	s.lacks(t, words{shallow: "gone"}, "gone", "")
	s.lacks(t, words{refs: "a=gone"}, "gone", "")
	s.lacks(t, words{shallow: "zero"}, "zero", "")
	s.lacks(t, words{refs: "a=zero"}, "zero", "")
	s.lacks(t, words{refs: "a=gone", promised: "gone"}, "gone", "")
	s.lacks(t, words{shallow: "gone", promised: "gone"}, "gone", "")
}

// A state of one object, whole, and with each of its links away.
func TestOneObject(t *testing.T) {
	s := house()
	s.commit("fourth", "flat", "third first second")
	s.tree("all", "1=a 2=b 3=c 4/=empty 5/=root 6/=cellar")
	s.commit("ofAll", "all", "fourth first third second")
	s.whole(t, words{objects: "a"}, "")
	s.whole(t, words{objects: "empty"}, "")
	s.whole(t, words{objects: s.but("")}, "")
	for _, x := range []struct{ object, links string }{
		{"cellar", "a c"}, {"root", "b cellar"}, {"all", "a b c empty root cellar"},
		{"first", "root"}, {"second", "flat first"}, {"third", "empty second first"}, {"fourth", "flat third first second"}, {"ofAll", "all fourth first third second"},
	} {
		links := strings.Fields(x.links)
		s.lacks(t, words{objects: x.object}, links[0], "")
		s.whole(t, words{objects: x.object, promised: x.object}, x.links)
		// Of other objects, which may lack any links, are all promised.
		rest := s.but(x.object)
		s.whole(t, words{objects: rest + " " + x.object, promised: rest}, "")
		for _, away := range links {
			rest := s.but(x.object + " " + away)
			s.lacks(t, words{objects: rest + " " + x.object, promised: rest}, away, s.linked(rest, away))
			s.whole(t, words{objects: rest + " " + x.object, promised: rest + " " + x.object}, away)
		}
	}
}

// linked is label, if one of the objects links to it.
func (s shelf) linked(objects, label string) string {
	for _, o := range s.objects(objects) {
		for _, to := range linksOf(o) {
			if to == s.id(label) {
				return label
			}
		}
	}
	return ""
}

// linksOf are the names that stand in o, found anew.
func linksOf(o api.Object) []api.Id {
	var ids []api.Id
	if o.Kind == api.KCommit {
		ids = append(ids, o.Commit.Tree)
		ids = append(ids, o.Commit.Parents...)
	}
	for _, e := range o.Entries {
		ids = append(ids, e.Id)
	}
	return ids
}

// The links of a wide tree, and of a commit with all parents that may be: the
// first one that is away is told, be the others there or not.
func TestFirstOfOneObject(t *testing.T) {
	s := shelf{}
	var entries, labels []string
	for at := range 20 {
		label := fmt.Sprintf("b%02d", (at*7)%20)
		s.blob(label)
		labels, entries = append(labels, label), append(entries, fmt.Sprintf("e%02d=%s", at, label))
	}
	s.tree("wide", strings.Join(entries, " "))
	s.firstAway(t, "wide", labels)
	s.tree("empty", "")
	var parents []string
	for at := range 4 {
		label := fmt.Sprint("c", (at*3)%4)
		s.commit(label, "empty", "")
		parents = append(parents, label)
	}
	s.commit("merge", "wide", strings.Join(parents, " "))
	s.firstAway(t, "merge", append([]string{"wide"}, parents...))
}

// firstAway asks of one object that of its links, at labels, the first one that
// is away is told.
func (s shelf) firstAway(t *testing.T, from string, labels []string) {
	t.Helper()
	for at, label := range labels {
		for _, away := range [][]string{labels[at : at+1], labels[at:], {label, labels[len(labels)-1]}} {
			out := strings.Join(away, " ")
			rest := s.but(from + " " + out)
			s.lacks(t, words{objects: rest + " " + from, promised: rest}, label, s.awayOf(rest, away))
			s.whole(t, words{objects: rest + " " + from, promised: rest + " " + from}, out)
		}
	}
}

// awayOf are those of labels that one of the objects links to.
func (s shelf) awayOf(objects string, labels []string) string {
	var found []string
	for _, label := range labels {
		found = append(found, s.linked(objects, label))
	}
	return strings.Join(found, " ")
}

// An object that may not be is told ahead of all else, with no Id.
func TestObjectThatMayNotBe(t *testing.T) {
	s := house()
	all := s.objects(s.but(""))
	bad := []store.State{
		{}, {Refs: []api.Ref{{Name: "a", Id: s.id("gone")}}}, {Shallow: s.ids("gone a")}, s.state(words{objects: "second"}),
		{Refs: []api.Ref{{Name: "a", Id: s.id("first")}, {Name: "b", Id: s.id("a")}}, Shallow: s.ids("lost")}, {Promised: s.ids("zero")},
		{Promised: s.ids("zero first"), Shallow: s.ids("zero"), Refs: []api.Ref{{Name: "zero"}}, Filtered: true},
	}
	for k, o := range wrong() {
		for _, x := range bad {
			for where, os := range map[string][]api.Object{
				"alone": {o}, "twice": {o, o}, "ahead": append([]api.Object{o}, all...), "behind": append(s.objects(s.but("")), o),
				"between": append(append(s.objects("first third"), o), s.objects("root a b")...), "ahead of another": {o, wrong()[0]}, "beside what lacks a link": {s["second"], o, s["first"]},
			} {
				y := x
				y.Objects = append(os, x.Objects...)
				if e, id := link.Check(y); e != api.ErrForm || id != (api.Id{}) {
					t.Errorf("P18.1: Check with wrong object %d %s: %d, %s", k, where, e, s.text(id))
				}
			}
		}
	}
}

// A ref must be a commit's.
func TestRefs(t *testing.T) {
	s := house()
	all := s.but("")
	for _, refs := range []string{"m=first", "m=third", "m=first n=first", "c=third a=first b=second", "z=first y=second x=third w=first", "m=first m=first"} {
		s.whole(t, words{objects: all, refs: refs}, "")
		s.whole(t, words{objects: all, refs: refs, promised: all}, "")
	}
	for _, bad := range []string{"a", "root", "empty", "gone", "zero"} {
		for _, refs := range []string{"m=" + bad, "m=first n=" + bad, "n=first m=" + bad, "z=third b=first m=" + bad + " c=second", "m=" + bad + " n=" + bad, "m=" + bad + " m=" + bad} {
			s.lacks(t, words{objects: all, refs: refs}, bad, "")
			s.lacks(t, words{objects: all, refs: refs, promised: all + " " + bad}, bad, "")
			// Ahead of a link that is away.
			s.lacks(t, words{objects: s.but("c"), refs: refs}, bad, "")
			s.lacks(t, words{objects: s.but("c"), refs: refs, promised: "cellar"}, bad, "c")
		}
	}
	// A commit that is there, and one that is not.
	s.lacks(t, words{objects: s.but("third"), refs: "a=first b=third"}, "third", "")
	s.whole(t, words{objects: s.but("third"), refs: "a=first b=second"}, "")
}

// Of several refs the first one by Names is told.
func TestFirstRef(t *testing.T) {
	s := house()
	all := s.but("")
	for _, x := range []struct{ refs, want string }{
		{"a=gone b=lost", "gone"}, {"b=gone a=lost", "lost"}, {"a=a b=root", "a"}, {"b=a a=root", "root"}, {"a=gone b=zero", "gone"}, {"a=zero b=gone", "zero"},
		{"c=gone a=first b=lost", "lost"}, {"b=gone a=first c=lost", "gone"}, {"d=a b=root c=gone a=third", "root"}, {"d=first b=root a=gone c=a", "gone"},
		{"a-b=gone a=lost", "lost"}, {"a=gone aa=lost", "gone"}, {"aa=gone a=lost", "lost"}, {"a.b=gone a0=lost", "gone"}, {"a_b=gone a0=lost", "lost"}, {"9=gone 10=lost", "lost"}, {"z=gone 0=lost", "lost"},
	} {
		s.lacks(t, words{objects: all, refs: x.refs}, x.want, "")
		s.lacks(t, words{objects: s.but("b"), refs: x.refs, shallow: "gone lost a"}, x.want, "")
	}
}

// Names go by their bytes, be they such as a ref may have or not.
func TestRefsOfAnyName(t *testing.T) {
	s := house()
	names := []string{"", "\x00", "A", "Z", "a", "a\x00", "a/b", strings.Repeat("a", 1000), "b", "z", "é", "\xff"}
	for at, name := range names {
		x := store.State{Objects: s.objects(s.but(""))}
		for k := len(names) - 1; k >= at; k-- {
			x.Refs = append(x.Refs, api.Ref{Name: names[k], Id: api.Id{byte(200 - k)}})
		}
		s.tells(t, fmt.Sprintf("refs of %q and more", name), x, api.ErrLink, api.Id{byte(200 - at)}, nil)
		x.Refs = []api.Ref{{Name: name, Id: s.id("third")}}
		s.tells(t, fmt.Sprintf("a ref of %q", name), x, api.OK, api.Id{}, nil)
	}
}

// Of many refs of few Names, of which those of one stay in their order, the first
// one that is wrong is told.
func TestManyRefs(t *testing.T) {
	s := house()
	c := coin(7)
	right := s.ids("first second third")
	for n := range 300 {
		x := store.State{Objects: s.objects(s.but(""))}
		var first api.Ref
		for k := range n {
			r := api.Ref{Name: one(&c, []string{"l", "m", "n"}), Id: one(&c, right)}
			if c.below(4) > 0 {
				r.Id = api.Id{byte(300 - k), byte(k)}
				if first.Name == "" || r.Name < first.Name {
					first = r
				}
			}
			x.Refs = append(x.Refs, r)
		}
		e := api.OK
		if first.Name != "" {
			e = api.ErrLink
		}
		s.tells(t, fmt.Sprintf("%d refs", n), x, e, first.Id, nil)
	}
}

// A shallow one must be a commit.
func TestShallow(t *testing.T) {
	s := house()
	all := s.but("")
	for _, shallow := range []string{"first", "third", "first second", "third second first", "second second", "first third first"} {
		s.whole(t, words{objects: all, shallow: shallow}, "")
		s.whole(t, words{objects: all, shallow: shallow, promised: all}, "")
	}
	for _, bad := range []string{"a", "root", "empty", "gone", "zero"} {
		for _, shallow := range []string{bad, "first " + bad, "third " + bad + " second first", bad + " " + bad} {
			s.lacks(t, words{objects: all, shallow: shallow}, bad, "")
			s.lacks(t, words{objects: all, shallow: shallow, promised: all + " " + bad}, bad, "")
			s.lacks(t, words{objects: all, shallow: shallow, refs: "m=first n=third"}, bad, "")
			s.lacks(t, words{objects: s.but("c"), shallow: shallow}, bad, "")
			s.lacks(t, words{objects: s.but("c"), shallow: shallow, promised: "cellar"}, bad, "c")
			// Behind a ref.
			s.lacks(t, words{objects: all, shallow: shallow, refs: "m=away"}, "away", "")
			s.lacks(t, words{objects: all, shallow: shallow + " third", refs: "m=first z=b"}, "b", "")
		}
	}
	s.lacks(t, words{objects: s.but("third"), shallow: "first third"}, "third", "")
	s.lacks(t, words{objects: s.but("third"), shallow: "third", promised: "third"}, "third", "")
}

// Of several shallow ones the least is told.
func TestFirstShallow(t *testing.T) {
	s := house()
	all := s.but("")
	bad := "gone lost a zero root away empty"
	left := s.byId(bad)
	for len(left) > 0 {
		s.lacks(t, words{objects: all, shallow: strings.Join(left, " ")}, left[0], "")
		s.lacks(t, words{objects: all, shallow: "third " + strings.Join(left, " ") + " first", refs: "m=second"}, left[0], "")
		s.lacks(t, words{objects: s.but("b"), shallow: left[len(left)-1] + " second " + left[0]}, left[0], "")
		left = left[1:]
	}
}

// A ref that is wrong comes ahead of a shallow one, be its Id less or not.
func TestRefAheadOfShallow(t *testing.T) {
	s := house()
	two := s.byId("gone lost")
	for _, x := range [][2]string{{two[0], two[1]}, {two[1], two[0]}, {"zero", "gone"}, {"gone", "zero"}, {"a", "root"}, {"root", "a"}} {
		s.lacks(t, words{objects: s.but(""), refs: "z=" + x[0], shallow: x[1]}, x[0], "")
		s.lacks(t, words{objects: s.but("c"), refs: "a=first z=" + x[0], shallow: x[1] + " first"}, x[0], "")
	}
}

// What is wrong is told in order: one after the other is made right.
func TestInOrder(t *testing.T) {
	s := house()
	w := words{objects: "third second first cellar", refs: "b=gone a=a", shallow: "lost second"}
	bad := s.state(w)
	bad.Objects = append(bad.Objects, blobOf(strings.Repeat("b", 1001)))
	s.tells(t, "an object that may not be", bad, api.ErrForm, api.Id{}, nil)
	s.lacks(t, w, "a", "")
	w.refs = "b=gone a=third"
	s.lacks(t, w, "gone", "")
	w.refs = "b=first a=third"
	s.lacks(t, w, "lost", "")
	w.shallow = "second"
	// Links: of the objects by their names.
	first := map[string]string{"third": "empty", "second": "flat", "first": "root", "cellar": "a"}
	for _, label := range s.byId("third second first cellar") {
		s.lacks(t, w, first[label], strings.Join(s.linksAway(w), " "))
		w.promised += " " + label
	}
	s.whole(t, w, "empty flat root a c")
}

// linksAway are the labels of what promised objects of w link to and is not
// there; of w, in which all Parents are.
func (s shelf) linksAway(w words) []string {
	var found []string
	for label := range strings.FieldsSeq(w.promised) {
		for _, to := range linksOf(s[label]) {
			text := strings.Trim(s.text(to), "[]")
			if !strings.Contains(" "+w.objects+" ", " "+text+" ") {
				found = append(found, text)
			}
		}
	}
	return found
}

package link_test

import (
	"fmt"
	"slices"
	"strings"
	"testing"

	"colporteur/api"
	"colporteur/link"
	"colporteur/store"
)

// A promised object of each kind, with all its links away, and with some.
func TestPromised(t *testing.T) {
	s := house()
	s.whole(t, words{objects: "a", promised: "a"}, "")
	s.whole(t, words{objects: "empty", promised: "empty"}, "")
	s.whole(t, words{objects: "flat", promised: "flat"}, "a b empty")
	s.whole(t, words{objects: "flat b", promised: "flat"}, "a empty")
	s.whole(t, words{objects: "flat b a empty", promised: "flat"}, "")
	s.whole(t, words{objects: "third", promised: "third"}, "empty second first")
	s.whole(t, words{objects: "third empty", promised: "third", refs: "m=third"}, "second first")
	s.whole(t, words{objects: "third empty first root", promised: "third root"}, "second b cellar")
	s.lacks(t, words{objects: "third empty first root", promised: "third first"}, s.firstOf("root", "b cellar"), "second")
	s.lacks(t, words{objects: "third empty first", promised: "third"}, "root", "second")
	s.lacks(t, words{objects: "flat", promised: "a b empty"}, "a", "")
}

// firstOf is the first link of that object that is one of labels.
func (s shelf) firstOf(object, labels string) string {
	for _, id := range linksOf(s[object]) {
		for label := range strings.FieldsSeq(labels) {
			if s.id(label) == id {
				return label
			}
		}
	}
	panic(object)
}

// An object may be shallow and promised at once: its Tree may be away, and is
// told; its Parents are away for good.
func TestShallowAndPromised(t *testing.T) {
	s := house()
	w := words{objects: "third", promised: "third", shallow: "third", refs: "m=third"}
	s.whole(t, w, "empty")
	w.objects = "third empty"
	s.whole(t, w, "")
	w.objects = "third first"
	s.lacks(t, w, "root", "empty")
	w.promised = "third first"
	s.whole(t, w, "empty root")
	w.shallow = "third first"
	s.whole(t, w, "empty root")
	w.shallow = "first"
	s.whole(t, w, "empty second root")
	w.promised = "first"
	s.lacks(t, w, "empty", "root")
	w.shallow = "third"
	s.lacks(t, w, "empty", "root")
	w.shallow, w.objects = "third", "third first empty"
	s.whole(t, w, "root")
	// Another one, which is not shallow, lacks the same Parent.
	w = words{objects: "third second empty flat a b", promised: "third second", shallow: "third"}
	s.whole(t, w, "first")
	w.shallow = "second third"
	s.whole(t, w, "")
	w.shallow, w.promised = "second", "second"
	s.lacks(t, w, "first", "")
	// What is shallow by its name, but is no commit, has its links.
	w = words{objects: "root", promised: "root", shallow: "root"}
	s.lacks(t, w, "root", "b cellar")
}

// Names of what is not there, and names that stand there twice, change nothing.
func TestPromisedThatIsNotThere(t *testing.T) {
	s := house()
	for _, promised := range []string{"gone", "zero", "gone lost zero", "b", "cellar gone cellar"} {
		s.lacks(t, words{objects: "root", promised: promised}, "b", "")
		s.whole(t, words{objects: "root", promised: promised + " root"}, "b cellar")
		s.whole(t, words{objects: "root", promised: "root root " + promised + " root"}, "b cellar")
	}
	s.whole(t, words{objects: "third empty", promised: "third", shallow: "third third third"}, "")
	s.whole(t, words{objects: "third empty", promised: "third second first", shallow: "third"}, "")
	s.whole(t, words{objects: "third empty", promised: "third second first"}, "second first")
	s.lacks(t, words{objects: "third empty", promised: "second first"}, "second", "")
}

// A link that is away of a promised object, and of one that is not.
func TestPromisedAndNot(t *testing.T) {
	s := shelf{}
	s.tree("one", "a=gone b=lost")
	s.tree("two", "a=lost b=gone")
	s.commit("three", "gone", "away")
	s.tree("blobless", "a=away")
	first := map[string]string{"one": "gone", "two": "lost", "three": "gone", "blobless": "away"}
	all := strings.Fields("one two three blobless")
	away := map[string]string{"one": "gone lost", "two": "lost gone", "three": "gone away", "blobless": "away"}
	for bits := range 1 << len(all) {
		var promised, rest, told []string
		for at, label := range all {
			if bits>>at&1 == 1 {
				promised, told = append(promised, label), append(told, away[label])
			} else {
				rest = append(rest, label)
			}
		}
		w := words{objects: strings.Join(all, " "), promised: strings.Join(promised, " ")}
		if len(rest) == 0 {
			s.whole(t, w, strings.Join(told, " "))
			continue
		}
		s.lacks(t, w, first[s.byId(strings.Join(rest, " "))[0]], strings.Join(told, " "))
	}
}

// Links that several promised objects have in common are told once, rising.
func TestAwayInCommon(t *testing.T) {
	s := shelf{}
	var objects, away []string
	for at := range 20 {
		label := fmt.Sprint("t", at)
		s.tree(label, fmt.Sprintf("a=l%d b=l%d c=l%d d=l%d", at%7, (at+1)%7, at/2, 6-at%7))
		objects = append(objects, label)
	}
	s.tree("same", "a=l0 b=l0 c=l0")
	for at := range 10 {
		away = append(away, fmt.Sprint("l", at))
	}
	all := strings.Join(append(objects, "same"), " ")
	s.whole(t, words{objects: all, promised: all}, strings.Join(away, " "))
	s.whole(t, words{objects: "same", promised: "same"}, "l0")
	s.lacks(t, words{objects: all, promised: "same"}, s.firstOf(s.byId(strings.Join(objects, " "))[0], strings.Join(away, " ")), "l0")
	if got := len(link.Away(s.state(words{objects: all, promised: all}))); got != 10 {
		t.Errorf("P18.1: Away of links in common: %d", got)
	}
}

// Away tells the same of a state for which Check tells a fault.
func TestAwayBesideFaults(t *testing.T) {
	s := house()
	for _, x := range []struct{ refs, shallow, want string }{
		{"m=gone", "", "gone"}, {"m=root n=a", "", "root"}, {"", "gone", "gone"}, {"", "root zero", "zero"}, {"m=first", "empty", "first"}, {"m=second", "", "flat"},
	} {
		s.lacks(t, words{objects: "third empty root second", promised: "third root", refs: x.refs, shallow: x.shallow}, x.want, "first b cellar")
	}
}

// Of objects of which some may not be Away tells what the others lack; what may
// not be has no name, the zero one neither.
func TestAwayBesideWrongObjects(t *testing.T) {
	s := house()
	w := words{objects: "third empty root", promised: "third root zero gone", shallow: "zero"}
	want := rising(s.ids("second first b cellar"))
	for k, o := range wrong() {
		for what, x := range alike(s.state(w)) {
			for at := range len(x.Objects) + 1 {
				y := x
				y.Objects = slices.Insert(slices.Clone(x.Objects), at, o)
				s.tells(t, fmt.Sprintf("wrong object %d at %d, %s", k, at, what), y, api.ErrForm, api.Id{}, want)
			}
		}
		x := store.State{Objects: []api.Object{o}, Promised: append(s.ids("zero gone"), api.Id{7})}
		s.tells(t, fmt.Sprintf("wrong object %d alone", k), x, api.ErrForm, api.Id{}, nil)
		x = store.State{Objects: []api.Object{o, s["root"], o}, Promised: s.ids("root zero")}
		s.tells(t, fmt.Sprintf("wrong object %d on both sides", k), x, api.ErrForm, api.Id{}, rising(s.ids("b cellar")))
	}
}

// Many promised objects, of which each lacks a link of its own, and one that all
// of them lack.
func TestAwayOfManyPromised(t *testing.T) {
	var x store.State
	var want []api.Id
	for at := range 5000 {
		lost := api.Id{byte(at), byte(at >> 8), 9}
		o := treeOf(api.Entry{Name: "a", Id: lost}, api.Entry{Name: "b", Id: api.Id{1}}, api.Entry{Name: "c", Id: lost})
		x.Objects, x.Promised = append(x.Objects, o), append(x.Promised, name(o))
		want = append(want, lost)
	}
	want = rising(append(want, api.Id{1}))
	s := shelf{}
	s.tells(t, "many promised", x, api.OK, api.Id{}, want)
	s.tells(t, "many promised, turned", turned(x), api.OK, api.Id{}, want)
}

package link_test

import (
	"cmp"
	"fmt"
	"slices"
	"testing"

	"colporteur/api"
	"colporteur/link"
	"colporteur/object"
	"colporteur/store"
)

// paper is a state as the chapter's words go: all that is wrong with it, in no
// order, of which the first one is told.
type paper struct {
	store.State
	names []api.Id // of the objects that may be, in their order
	may   []api.Object
}

func paperOf(x store.State) paper {
	p := paper{State: x}
	for _, o := range x.Objects {
		if object.May(o) {
			p.names, p.may = append(p.names, name(o)), append(p.may, o)
		}
	}
	return p
}

// fault is a thing that is wrong: of those of one class the one of the least key
// comes first, and of one key that of the least place.
type fault struct {
	class int
	key   string
	place int
	id    api.Id
}

func (p paper) isThere(id api.Id) bool { return slices.Contains(p.names, id) }

func (p paper) isCommit(id api.Id) bool {
	at := slices.Index(p.names, id)
	return at >= 0 && p.may[at].Kind == api.KCommit
}

// cutOff tells whether the link at that place of an object may be away for good: a
// shallow commit's Tree stands at place 0, its Parents behind.
func (p paper) cutOff(at, place int) bool {
	return place > 0 && p.may[at].Kind == api.KCommit && slices.Contains(p.Shallow, p.names[at])
}

func (p paper) faults() []fault {
	var found []fault
	for at, r := range p.Refs {
		if !p.isCommit(r.Id) {
			found = append(found, fault{1, r.Name, at, r.Id})
		}
	}
	for _, id := range p.Shallow {
		if !p.isCommit(id) {
			found = append(found, fault{2, string(id[:]), 0, id})
		}
	}
	for at, o := range p.may {
		for place, id := range linksOf(o) {
			if !p.isThere(id) && !p.cutOff(at, place) && !slices.Contains(p.Promised, p.names[at]) {
				found = append(found, fault{3, string(p.names[at][:]), place, id})
			}
		}
	}
	return found
}

// check is the first fault's error, its Id, and its class.
func (p paper) check() (api.Errno, api.Id, int) {
	if len(p.may) < len(p.Objects) {
		return api.ErrForm, api.Id{}, 0
	}
	found := p.faults()
	if len(found) == 0 {
		return api.OK, api.Id{}, 4
	}
	first := slices.MinFunc(found, func(a, b fault) int {
		return cmp.Or(cmp.Compare(a.class, b.class), cmp.Compare(a.key, b.key), cmp.Compare(a.place, b.place))
	})
	return api.ErrLink, first.id, first.class
}

// away goes from each name to those that might link to it.
func (p paper) away() []api.Id {
	var every []api.Id
	for _, o := range p.may {
		every = append(every, linksOf(o)...)
	}
	return slices.DeleteFunc(rising(every), func(id api.Id) bool { return p.isThere(id) || !p.isPromisedTo(id) })
}

func (p paper) isPromisedTo(id api.Id) bool {
	for at, o := range p.may {
		for place, to := range linksOf(o) {
			if to == id && !p.cutOff(at, place) && slices.Contains(p.Promised, p.names[at]) {
				return true
			}
		}
	}
	return false
}

// differ is what is told of x otherwise than the paper has it; seen counts what
// came of it.
func differ(x store.State, seen map[string]int) string {
	p := paperOf(x)
	e, id, class := p.check()
	away := p.away()
	gotErr, gotId := link.Check(x)
	if gotErr != e || gotId != id {
		return fmt.Sprintf("Check %d, %x, not %d, %x", gotErr, gotId, e, id)
	}
	if got := link.Away(x); !slices.Equal(got, away) {
		return fmt.Sprintf("Away %x, not %x", got, away)
	}
	seen[fmt.Sprint("class ", class)]++
	if class > 0 && class < 4 && len(p.faults()) > 1 {
		seen[fmt.Sprint("class ", class, ", and more")]++
	}
	seen[fmt.Sprint("away ", min(len(away), 2))]++
	return ""
}

// Each state of a house of six objects: each away, there, or promised, and each
// choice of what is shallow, and of a ref.
func TestAllStates(t *testing.T) {
	s := shelf{}
	s.blob("b")
	s.tree("t", "b=b c=b")
	s.tree("u", "a=t b=b")
	s.commit("c", "t", "")
	s.commit("d", "u", "c")
	s.commit("e", "t", "d c")
	labels := s.labels()
	seen := map[string]int{}
	for code := range 729 {
		var w words
		for _, label := range labels {
			if code%3 > 0 {
				w.objects += " " + label
			}
			if code%3 == 2 {
				w.promised += " " + label
			}
			code /= 3
		}
		for _, w.shallow = range []string{"", "c", "d", "e", "c d", "c e", "d e", "c d e", "t", "e b"} {
			for _, w.refs = range []string{"", "m=c", "m=e n=d", "m=e n=b"} {
				if bad := differ(s.state(w), seen); bad != "" {
					t.Fatalf("P18.1: %+v: %s", w, bad)
				}
			}
		}
	}
	for _, what := range []string{"class 1", "class 2", "class 3", "class 4", "away 0", "away 1", "away 2"} {
		if seen[what] < 100 {
			t.Errorf("all states see %q too seldom: %v", what, seen)
		}
	}
}

// thrower throws states, of objects that link to those that it threw ahead of
// them.
type thrower struct {
	coin
	made  [4][]api.Id // by kinds; of 0 such as are no object's
	every []api.Object
}

// name is a thrown one, mostly of that kind.
func (c *thrower) name(kind int) api.Id {
	if c.below(20) == 0 {
		kind = c.below(4)
	}
	if len(c.made[kind]) == 0 {
		kind = 0
	}
	return one(&c.coin, c.made[kind])
}

func (c *thrower) object() api.Object {
	switch c.below(6) {
	case 0, 1:
		return blobOf(fmt.Sprint(c.below(50)))
	case 2, 3:
		var es []api.Entry
		for at := range c.below(5) {
			kind := api.KBlob + c.below(3)%2
			es = append(es, api.Entry{Name: fmt.Sprint(at), Tree: c.below(9) == 0 != (kind == api.KTree), Id: c.name(kind)})
		}
		return treeOf(es...)
	}
	var parents []api.Id
	for range c.below(5) {
		if id := c.name(api.KCommit); !slices.Contains(parents, id) {
			parents = append(parents, id)
		}
	}
	return commitOf(api.Commit{Tree: c.name(api.KTree), Parents: parents, When: float64(c.below(5)), Note: fmt.Sprint(c.below(5))})
}

func throwObjects(seed coin, n int) *thrower {
	c := &thrower{coin: seed}
	c.made[0] = []api.Id{{}, {1}, {31: 1}}
	for range n {
		o := c.object()
		c.made[o.Kind] = append(c.made[o.Kind], name(o))
		c.every = append(c.every, o)
	}
	return c
}

// those are some of list, each with one chance in n.
func those[E any](c *coin, list []E, n int) []E {
	var found []E
	for _, e := range list {
		if c.below(n) == 0 {
			found = append(found, e)
		}
	}
	return found
}

// refs are at most n thrown ones, few of them of one Name.
func (c *thrower) refs(n int) []api.Ref {
	var found []api.Ref
	for range c.below(n + 1) {
		found = append(found, api.Ref{Name: fmt.Sprint("r", c.below(40)), Id: c.name(api.KCommit)})
	}
	return found
}

// state is a thrown one.
func (c *thrower) state() store.State {
	var x store.State
	left := 1 + c.below(8)
	x.Objects = mixed(&c.coin, slices.DeleteFunc(slices.Clone(c.every), func(api.Object) bool { return left < 7 && c.below(left*3) == 0 }))
	ids := names(x.Objects...)
	x.Promised = mixed(&c.coin, those(&c.coin, ids, 1+c.below(4)))
	if c.below(3) == 0 {
		x.Refs = c.refs(4)
	}
	for _, id := range those(&c.coin, c.made[api.KCommit], 1+c.below(4)) {
		if c.below(30) == 0 || slices.Contains(ids, id) {
			x.Shallow = append(x.Shallow, id)
		}
	}
	x.Shallow = mixed(&c.coin, x.Shallow)
	if c.below(12) == 0 {
		x.Shallow = append(x.Shallow, c.name(c.below(4)))
		x.Promised = append(x.Promised, some(&c.coin, c.made[0], 2)...)
	}
	if c.below(20) == 0 {
		x.Objects = slices.Insert(x.Objects, c.below(len(x.Objects)+1), one(&c.coin, wrong()))
	}
	x.Filtered = c.below(2) == 0
	return x
}

// mend makes all of x be there that must be, one way or another: what is not
// there is brought, cut off, or promised.
func (c *thrower) mend(x store.State) store.State {
	x.Objects = slices.DeleteFunc(x.Objects, func(o api.Object) bool { return !object.May(o) })
	p := paperOf(x)
	x.Refs = slices.DeleteFunc(x.Refs, func(r api.Ref) bool { return !p.isCommit(r.Id) })
	x.Shallow = slices.DeleteFunc(x.Shallow, func(id api.Id) bool { return !p.isCommit(id) })
	for {
		p = paperOf(x)
		faults := p.faults()
		if len(faults) == 0 {
			return x
		}
		f := one(&c.coin, faults)
		from := api.Id([]byte(f.key))
		brought := slices.IndexFunc(c.every, func(o api.Object) bool { return name(o) == f.id })
		switch {
		case brought >= 0 && c.below(2) == 0:
			x.Objects = append(x.Objects, c.every[brought])
		case f.place > 0 && p.isCommit(from) && c.below(2) == 0:
			x.Shallow = append(x.Shallow, from)
		default:
			x.Promised = append(x.Promised, from)
		}
	}
}

func TestThrownStates(t *testing.T) {
	seen := map[string]int{}
	for round := range 1000 {
		c := throwObjects(coin(round), 3+round%30)
		for range 8 {
			if bad := differ(c.state(), seen); bad != "" {
				t.Fatalf("P18.1: the thrown state %d: %s", round, bad)
			}
		}
	}
	for _, what := range []string{"class 0", "class 1", "class 2", "class 3", "class 4", "class 1, and more", "class 2, and more", "class 3, and more", "away 0", "away 1", "away 2"} {
		if seen[what] < 200 {
			t.Errorf("the thrown states see %q too seldom: %v", what, seen)
		}
	}
}

// Of a state in which all is there, each object that is taken out, each name that
// is cut off or promised no more, is found, unless nothing hangs on it.
func TestThrownStatesMended(t *testing.T) {
	seen := map[string]int{}
	for round := range 400 {
		c := throwObjects(coin(3000+round), 3+round%25)
		x := c.mend(c.state())
		if e, id := link.Check(x); e != api.OK || id != (api.Id{}) {
			t.Fatalf("P18.1: the mended state %d: Check %d, %x", round, e, id)
		}
		var less []store.State
		for at := range x.Objects {
			y := cloned(x)
			y.Objects = slices.Delete(y.Objects, at, at+1)
			less = append(less, y)
		}
		for at := range x.Promised {
			y := cloned(x)
			y.Promised = slices.Delete(y.Promised, at, at+1)
			less = append(less, y)
		}
		for at := range x.Shallow {
			y := cloned(x)
			y.Shallow = slices.Delete(y.Shallow, at, at+1)
			less = append(less, y)
		}
		for k, y := range less {
			if bad := differ(y, seen); bad != "" {
				t.Fatalf("P18.1: the mended state %d, less %d: %s", round, k, bad)
			}
		}
	}
	for _, what := range []string{"class 1", "class 2", "class 3", "class 4", "away 0", "away 1", "away 2"} {
		if seen[what] < 100 {
			t.Errorf("the mended states see %q too seldom: %v", what, seen)
		}
	}
}

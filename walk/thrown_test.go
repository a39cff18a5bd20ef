package walk_test

import (
	"fmt"
	"regexp"
	"slices"
	"strings"
	"testing"

	"colporteur/api"
	"colporteur/object"
	"colporteur/walk"
)

// coin throws numbers, the same ones each time.
type coin uint64

// below is one below n.
func (c *coin) below(n int) int {
	*c = *c*6364136223846793005 + 1442695040888963407
	return int(uint64(*c>>33) % uint64(n))
}

// one is one of list.
func one[E any](c *coin, list []E) E { return list[c.below(len(list))] }

// paper is a graph as the chapter's words go: what was Added, in a row, out of
// which it works out anew whatever it tells.
type paper []sheet

type sheet struct {
	id api.Id
	o  api.Object
}

func (p paper) at(id api.Id) (api.Object, bool) {
	for _, s := range p {
		if s.id == id {
			return s.o, true
		}
	}
	return api.Object{}, false
}

// isCommit tells whether a commit of that name is there.
func (p paper) isCommit(id api.Id) bool {
	o, ok := p.at(id)
	return ok && o.Kind == api.KCommit
}

// links are the names that stand in o.
func links(o api.Object) []api.Id {
	var ids []api.Id
	switch o.Kind {
	case api.KTree:
		for _, e := range o.Entries {
			ids = append(ids, e.Id)
		}
	case api.KCommit:
		ids = append(slices.Clone(o.Commit.Parents), o.Commit.Tree)
	}
	return ids
}

// around goes over all that is there, over and over, and takes what lies in from
// or is led to by what was taken, till there is nothing more to take.
func (p paper) around(from []api.Id, may func(o api.Object) bool, leads func(o api.Object) []api.Id) []api.Id {
	taken := make([]bool, len(p))
	for more := true; more; {
		more = false
		for at, s := range p {
			if taken[at] || !may(s.o) {
				continue
			}
			is := slices.Contains(from, s.id)
			for k, other := range p {
				is = is || taken[k] && slices.Contains(leads(other.o), s.id)
			}
			taken[at], more = is, more || is
		}
	}
	var ids []api.Id
	for at, s := range p {
		if taken[at] {
			ids = append(ids, s.id)
		}
	}
	return rising(ids)
}

func (p paper) reach(from []api.Id) []api.Id {
	return p.around(from, func(o api.Object) bool { return true }, links)
}

func (p paper) commits(from []api.Id) []api.Id {
	return p.around(from, func(o api.Object) bool { return o.Kind == api.KCommit }, func(o api.Object) []api.Id { return o.Commit.Parents })
}

func (p paper) ids() []api.Id {
	var ids []api.Id
	for _, s := range p {
		ids = append(ids, s.id)
	}
	return rising(ids)
}

func (p paper) missing() []api.Id {
	var ids []api.Id
	for _, s := range p {
		ids = append(ids, links(s.o)...)
	}
	return slices.DeleteFunc(rising(ids), func(id api.Id) bool { _, ok := p.at(id); return ok })
}

func (p paper) log(id api.Id, n int) []api.Id {
	if n <= 0 || !p.isCommit(id) {
		return nil
	}
	o, _ := p.at(id)
	if len(o.Commit.Parents) == 0 {
		return []api.Id{id}
	}
	return append([]api.Id{id}, p.log(o.Commit.Parents[0], n-1)...)
}

var pathForm = regexp.MustCompile(`\A([a-z0-9._-]{1,20}(/[a-z0-9._-]{1,20})*)?\z`)
var dots = regexp.MustCompile(`(\A|/)\.\.?(/|\z)`)

func (p paper) lookup(commit api.Id, path string) (api.Id, api.Errno) {
	if !pathForm.MatchString(path) || dots.MatchString(path) {
		return api.Id{}, api.ErrForm
	}
	if !p.isCommit(commit) {
		return api.Id{}, api.ErrNone
	}
	o, _ := p.at(commit)
	return p.within(o.Commit.Tree, path)
}

// within is what stands at path in the object of that name.
func (p paper) within(id api.Id, path string) (api.Id, api.Errno) {
	o, ok := p.at(id)
	if !ok {
		return api.Id{}, api.ErrNone
	}
	if path == "" {
		return id, api.OK
	}
	first, rest, _ := strings.Cut(path, "/")
	at := slices.IndexFunc(o.Entries, func(e api.Entry) bool { return e.Name == first })
	if o.Kind != api.KTree || at < 0 {
		return api.Id{}, api.ErrNone
	}
	return p.within(o.Entries[at].Id, rest)
}

// thrower throws objects that link to those that it threw ahead of them.
type thrower struct {
	coin
	pool []api.Object // of all kinds
	made [4][]api.Id  // by kinds; of 0 such as are no object's
}

// name is a thrown one, mostly of that kind.
func (c *thrower) name(kind int) api.Id {
	if c.below(8) == 0 {
		kind = c.below(4)
	}
	if len(c.made[kind]) == 0 {
		kind = 0
	}
	list := c.made[kind]
	if c.below(2) == 0 {
		// One of the last, so that histories are long.
		list = list[max(0, len(list)-3):]
	}
	return one(&c.coin, list)
}

func (c *thrower) object() api.Object {
	switch c.below(7) {
	case 0:
		return blobOf(fmt.Sprint(c.below(30)))
	case 1, 2:
		var es []api.Entry
		for _, entry := range []string{"a", "b", "c", "d"}[c.below(3):] {
			if c.below(3) > 0 {
				isTree := c.below(3) > 0
				kind := api.KBlob
				if isTree {
					kind = api.KTree
				}
				es = append(es, api.Entry{Name: entry, Tree: isTree, Id: c.name(kind)})
			}
		}
		return treeOf(es...)
	}
	var parents []api.Id
	for range c.below(4) {
		id := c.name(api.KCommit)
		if !slices.Contains(parents, id) {
			parents = append(parents, id)
		}
	}
	return commitOf(api.Commit{Tree: c.name(api.KTree), Parents: parents, When: float64(c.below(3))})
}

// throwPool makes a pool of some objects, some of them twice.
func throwPool(seed coin, n int) *thrower {
	c := &thrower{coin: seed}
	c.made[0] = []api.Id{{}, {1}, {31: 1}}
	c.put(blobOf("first"))
	c.put(treeOf(api.Entry{Name: "a", Id: name(blobOf("first"))}))
	for len(c.pool) < n {
		c.put(c.object())
	}
	return c
}

func (c *thrower) put(o api.Object) {
	c.pool = append(c.pool, o)
	c.made[o.Kind] = append(c.made[o.Kind], name(o))
}

// names are so many thrown ones, of any kind.
func (c *thrower) names(n int) []api.Id {
	var ids []api.Id
	for range n {
		ids = append(ids, c.name(c.below(4)))
	}
	return ids
}

// path is a thrown one, mostly on a way that is there from that commit's Tree.
func (c *thrower) path(p paper, commit api.Id) string {
	var parts []string
	o, _ := p.at(commit)
	o, _ = p.at(o.Commit.Tree)
	for len(o.Entries) > 0 && c.below(4) > 0 {
		e := one(&c.coin, o.Entries)
		parts = append(parts, e.Name)
		o, _ = p.at(e.Id)
	}
	for c.below(5) == 0 {
		parts = append(parts, one(&c.coin, []string{"a", "b", "c", "d", "e", "..."}))
	}
	if c.below(20) == 0 {
		parts = append(parts, one(&c.coin, []string{"", ".", "..", "A"}))
	}
	return strings.Join(parts, "/")
}

// both is a graph, and a paper that is led beside it.
type both struct {
	g *walk.Graph
	p paper
}

// add Adds o to both: what is wrong.
func (b *both) add(o api.Object) string {
	want := object.May(o)
	if want {
		_, there := b.p.at(name(o))
		want = !there
	}
	if want {
		b.p = append(b.p, sheet{name(o), o})
	}
	if got := b.g.Add(o); got != want {
		return fmt.Sprintf("Add of %v: %v", o, got)
	}
	return ""
}

// differ is what the graph tells otherwise than the paper, of thrown questions;
// seen counts what came of them.
func (b *both) differ(c *thrower, seen map[string]int) string {
	from, id, n := c.names(c.below(4)), c.name(api.KCommit), c.below(9)-1
	path := c.path(b.p, id)
	found, e := b.g.Lookup(id, path)
	wantFound, wantErr := b.p.lookup(id, path)
	seen[fmt.Sprint("Lookup ", wantErr)]++
	if wantErr == api.OK && strings.Contains(path, "/") {
		seen["a deep Lookup"]++
	}
	if found != wantFound || e != wantErr {
		return fmt.Sprintf("Lookup of %x, %q: %x, %d, not %x, %d", id, path, found, e, wantFound, wantErr)
	}
	got, ok := b.g.Get(id)
	o, there := b.p.at(id)
	if ok != there || !object.Eq(got, o) {
		return fmt.Sprintf("Get of %x: %v, %v", id, got, ok)
	}
	was := slices.Clone(from)
	for what, x := range map[string]struct{ got, want []api.Id }{
		"Ids": {b.g.Ids(), b.p.ids()}, "Missing": {b.g.Missing(), b.p.missing()}, "Reach": {b.g.Reach(from...), b.p.reach(from)}, "Commits": {b.g.Commits(from...), b.p.commits(from)}, "Log": {b.g.Log(id, n), b.p.log(id, n)},
	} {
		if !slices.Equal(x.got, x.want) {
			return fmt.Sprintf("%s from %x, %x, %d: %x, not %x", what, from, id, n, x.got, x.want)
		}
		if len(x.want) > 3 {
			seen["a long "+what]++
		}
		write(x.got, api.Id{66})
	}
	if !slices.Equal(from, was) {
		return "P0.3: what is handed in is changed"
	}
	spoil(got)
	return ""
}

// begin is New of some of the pool, or a zero Graph.
func begin(c *thrower) *both {
	var os []api.Object
	share := c.below(12)
	for _, o := range c.pool {
		if c.below(11) < share {
			os = append(os, o)
		}
	}
	if len(os) > 0 {
		os = append(os, one(&c.coin, os))
	}
	if c.below(4) == 0 {
		os = append(os, one(&c.coin, wrong()))
	}
	b := &both{g: walk.New(os...)}
	if c.below(4) == 0 {
		b.g, os = &walk.Graph{}, nil
	}
	for _, o := range os {
		// On the paper alone: New has them.
		if object.May(o) {
			if _, there := b.p.at(name(o)); !there {
				b.p = append(b.p, sheet{name(o), o})
			}
		}
	}
	return b
}

func TestThrownGraphs(t *testing.T) {
	seen := map[string]int{}
	for round := range 1500 {
		c := throwPool(coin(round), 10+round%50)
		b := begin(c)
		for range 12 {
			o := one(&c.coin, c.pool)
			if c.below(20) == 0 {
				o = one(&c.coin, wrong())
			}
			bad := b.add(o)
			if bad == "" {
				bad = b.differ(c, seen)
			}
			if bad != "" {
				t.Fatalf("P15.1: the thrown graph %d: %s", round, bad)
			}
		}
	}
	for _, what := range []string{"Lookup 0", "Lookup 1", "Lookup 4", "a deep Lookup", "a long Ids", "a long Missing", "a long Reach", "a long Commits", "a long Log"} {
		if seen[what] < 100 {
			t.Errorf("the thrown graphs see %q too seldom: %v", what, seen)
		}
	}
}

// A graph of the whole pool, Added in an order in which what is linked to comes
// behind, too.
func TestThrownOrders(t *testing.T) {
	for round := range 100 {
		c := throwPool(coin(1000+round), 60)
		os := slices.Clone(c.pool)
		for at := range os {
			with := c.below(at + 1)
			os[at], os[with] = os[with], os[at]
		}
		b := &both{g: walk.New()}
		for _, o := range os {
			if bad := b.add(o); bad != "" {
				t.Fatalf("P15.1: the thrown order %d: %s", round, bad)
			}
		}
		for range 20 {
			if bad := b.differ(c, map[string]int{}); bad != "" {
				t.Fatalf("P15.1: the thrown order %d: %s", round, bad)
			}
		}
	}
}

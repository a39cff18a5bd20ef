package filter_test

import (
	"fmt"
	"math"
	"slices"
	"testing"

	"colporteur/api"
	"colporteur/filter"
	"colporteur/walk"
)

// paper is a graph as the chapter's words go: its objects in a row, out of which
// it works out anew whatever it tells.
type paper []sheet

type sheet struct {
	id api.Id
	o  api.Object
}

const none = math.MaxInt

// least is how many trees lie at least above each object, on the ways from the
// Trees of those commits; none: no way leads there. It goes upwards, from an
// object to the trees that it is an entry of.
func (p paper) least(commits []api.Id) func(id api.Id) int {
	known := map[api.Id]int{}
	var least func(id api.Id) int
	least = func(id api.Id) int {
		if depth, ok := known[id]; ok {
			return depth
		}
		depth := none
		for _, s := range p {
			if s.o.Kind == api.KCommit && s.o.Commit.Tree == id && slices.Contains(commits, s.id) {
				depth = 0
			}
			isEntry := slices.ContainsFunc(s.o.Entries, func(e api.Entry) bool { return e.Id == id })
			if above := none; isEntry && depth > 0 {
				above = least(s.id)
				if above < none {
					depth = min(depth, above+1)
				}
			}
		}
		known[id] = depth
		return depth
	}
	return least
}

// leaves tells whether f leaves out o at that depth.
func leaves(f api.Filter, o api.Object, depth int) bool {
	tooLong := o.Kind == api.KBlob && (f.Kind == 1 || f.Kind == 2 && len(o.Blob) >= int(math.Ceil(f.Limit)))
	tooDeep := o.Kind != api.KCommit && f.Kind == 3 && depth >= f.Depth
	return tooLong || tooDeep
}

func (p paper) selected(commits []api.Id, f api.Filter) []api.Id {
	least := p.least(commits)
	var ids []api.Id
	for _, s := range p {
		depth := least(s.id)
		isOne := s.o.Kind == api.KCommit && slices.Contains(commits, s.id)
		if isOne || depth != none && !leaves(f, s.o, depth) {
			ids = append(ids, s.id)
		}
	}
	return rising(ids)
}

// thrower throws a graph, of objects that link to those that it threw ahead of
// them, and questions about it.
type thrower struct {
	coin
	g    *walk.Graph
	p    paper
	made [4][]api.Id // by kinds; of 0 such as are no object's
}

// name is a thrown one, mostly of that kind; most times one of the last.
func (c *thrower) name(kind int) api.Id {
	if c.below(10) == 0 {
		kind = c.below(4)
	}
	if len(c.made[kind]) == 0 {
		kind = 0
	}
	list := c.made[kind]
	if c.below(3) > 0 {
		list = list[max(0, len(list)-3):]
	}
	return one(&c.coin, list)
}

func (c *thrower) object() api.Object {
	switch c.below(7) {
	case 0, 1:
		return blobOf(long(c.below(25)))
	case 2, 3, 4:
		var es []api.Entry
		for at := range c.below(6) {
			kind := api.KBlob
			if c.below(5) > 1 {
				kind = api.KTree
			}
			es = append(es, api.Entry{Name: fmt.Sprint(at), Tree: c.below(9) == 0 != (kind == api.KTree), Id: c.name(kind)})
		}
		return treeOf(es...)
	}
	var parents []api.Id
	for range c.below(3) {
		if id := c.name(api.KCommit); !slices.Contains(parents, id) {
			parents = append(parents, id)
		}
	}
	return commitOf(api.Commit{Tree: c.name(api.KTree), Parents: parents, When: float64(c.below(5))})
}

// throwGraph makes one of n objects at most; with holes, some are linked to, and
// are not there.
func throwGraph(seed coin, n int, holes bool) *thrower {
	c := &thrower{coin: seed, g: walk.New()}
	c.made[0] = []api.Id{{}, {1}, {31: 1}}
	for range n {
		o := c.object()
		id := name(o)
		if slices.Contains(c.made[o.Kind], id) {
			continue
		}
		c.made[o.Kind] = append(c.made[o.Kind], id)
		if !holes || c.below(8) > 0 {
			c.p = append(c.p, sheet{id, o})
			c.g.Add(o)
		}
	}
	return c
}

// filter is a thrown one that may be.
func (c *thrower) filter() api.Filter {
	switch c.below(8) {
	case 0:
		return api.Filter{}
	case 1:
		return noBlobs()
	case 2, 3:
		return shorter(float64(c.below(60)) / 2)
	case 4:
		return one(&c.coin, right())
	}
	return within(c.below(9))
}

// commits are some thrown names, mostly of commits.
func (c *thrower) commits() []api.Id {
	var ids []api.Id
	for range c.below(5) {
		ids = append(ids, c.name(api.KCommit))
	}
	return ids
}

// differ is what is told otherwise than the paper has it, of a thrown question;
// seen counts what came of it.
func (c *thrower) differ(seen map[string]int) string {
	commits, f := c.commits(), c.filter()
	was := slices.Clone(commits)
	got, want := filter.Select(c.g, commits, f), c.p.selected(commits, f)
	all := c.p.selected(commits, api.Filter{})
	kind := fmt.Sprint("Kind ", f.Kind)
	if len(want) > 5 {
		seen[kind+" lets some"]++
	}
	if len(want) < len(all) {
		seen[kind+" leaves out some"]++
	}
	if len(want) > 5 && len(want) < len(all) {
		seen[kind+" does both"]++
	}
	if !slices.Equal(got, want) || !slices.Equal(commits, was) {
		return fmt.Sprintf("Select of %x, %v: %x, not %x", was, f, got, want)
	}
	return ""
}

func TestThrownGraphs(t *testing.T) {
	seen := map[string]int{}
	for round := range 2000 {
		c := throwGraph(coin(round), 5+round%60, round%3 == 0)
		for range 10 {
			if bad := c.differ(seen); bad != "" {
				t.Fatalf("P17.1: the thrown graph %d: %s", round, bad)
			}
		}
	}
	for _, what := range []string{"Kind 0 lets some", "Kind 1 lets some", "Kind 1 leaves out some", "Kind 1 does both", "Kind 2 lets some", "Kind 2 leaves out some", "Kind 2 does both", "Kind 3 lets some", "Kind 3 leaves out some", "Kind 3 does both"} {
		if seen[what] < 300 {
			t.Errorf("the thrown graphs see %q too seldom: %v", what, seen)
		}
	}
}

// What Lets tells of thrown objects at thrown depths.
func TestThrownLets(t *testing.T) {
	c := throwGraph(7000, 300, false)
	let := 0
	for round := range 50000 {
		f, o, depth := c.filter(), one(&c.coin, c.p).o, c.below(12)
		want := !leaves(f, o, depth)
		if want {
			let++
		}
		if got := filter.Lets(f, o, depth); got != want {
			t.Fatalf("P17.1: the thrown Lets %d of %v, %v, %d: %v", round, f, o, depth, got)
		}
	}
	if let < 10000 || let > 45000 {
		t.Errorf("of the thrown Lets %d let", let)
	}
}

// number is a thrown limit: of any bits, or near those that count.
func (c *thrower) number() float64 {
	bits := uint64(c.below(1<<31))<<33 ^ uint64(c.below(1<<31))<<11 ^ uint64(c.below(1<<11))
	switch c.below(4) {
	case 0:
		return math.Float64frombits(bits)
	case 1:
		return math.Float64frombits(math.Float64bits(million) + bits%5 - 2)
	case 2:
		return float64(c.below(2*million)) / 1.5
	}
	return one(&c.coin, append(limits(), noLimits()...))
}

// A filter may be, is told by a text, and read back, just as the chapter says.
func TestThrownFilters(t *testing.T) {
	c := &thrower{coin: 9000}
	seen := map[string]int{}
	for round := range 50000 {
		f := api.Filter{Kind: c.below(6) - 1}
		if c.below(5) > 0 == (f.Kind == 2) {
			f.Limit = c.number()
		}
		if c.below(5) > 0 == (f.Kind == 3) {
			f.Depth = c.below(1400) - 200
		}
		// Floats of 0 and above rise as their bits do; all others are above them.
		bits := math.Float64bits(f.Limit)
		mayLimit := bits == 0 || f.Kind == 2 && bits <= math.Float64bits(million)
		mayDepth := f.Depth == 0 || f.Kind == 3 && f.Depth > 0 && f.Depth <= 1000
		want := f.Kind >= 0 && f.Kind <= 3 && mayLimit && mayDepth
		seen[fmt.Sprint(f.Kind, want)]++
		text := filter.Put(f)
		if filter.May(f) != want || text != "" != want {
			t.Fatalf("P17.1: the thrown filter %d, %v: May %v, Put %q", round, f, filter.May(f), text)
		}
		if want {
			gets(t, text, &f)
		}
	}
	for kind := range 4 {
		for _, may := range []bool{true, false} {
			if what := fmt.Sprint(kind, may); seen[what] < 500 {
				t.Errorf("the thrown filters see %q too seldom: %v", what, seen)
			}
		}
	}
}

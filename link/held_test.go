package link_test

import (
	"fmt"
	"slices"
	"testing"

	"colporteur/api"
	"colporteur/depth"
	"colporteur/disk"
	"colporteur/filter"
	"colporteur/link"
	"colporteur/store"
	"colporteur/walk"
)

// fetcher holds what thrown fetches bring, of a graph that lacks nothing.
type fetcher struct {
	coin
	g     *walk.Graph
	every []api.Object
	tips  []api.Id // all commits, older ones ahead
	d     *disk.Disk
	s     *store.Store
}

func newFetcher(seed coin, commits int) *fetcher {
	f := &fetcher{coin: seed, d: disk.New()}
	blobs := []api.Object{blobOf(""), blobOf("a"), blobOf("many more bytes")}
	trees := []api.Object{treeOf(), treeOf(api.Entry{Name: "a", Id: name(blobs[1])})}
	for at := range commits {
		blobs = append(blobs, blobOf(fmt.Sprint("blob ", at)))
		inner := treeOf(api.Entry{Name: "b", Id: name(one(&f.coin, blobs))}, api.Entry{Name: "t", Tree: true, Id: name(one(&f.coin, trees))})
		outer := treeOf(api.Entry{Name: "b", Id: name(one(&f.coin, blobs))}, api.Entry{Name: "t", Tree: true, Id: name(inner)})
		trees = append(trees, inner, outer)
		var parents []api.Id
		for range min(1+f.below(3), at) {
			parent := f.tips[max(0, at-1-f.below(4))]
			if !slices.Contains(parents, parent) {
				parents = append(parents, parent)
			}
		}
		c := commitOf(api.Commit{Tree: name(one(&f.coin, trees[max(0, len(trees)-3):])), Parents: parents, When: float64(at) / 2, Note: fmt.Sprint(at)})
		f.every, f.tips = append(f.every, c), append(f.tips, name(c))
	}
	f.every = slices.Concat(blobs, trees, f.every)
	f.g = walk.New(f.every...)
	f.s, _ = store.Open(f.d)
	return f
}

// brings is what a thrown fetch brings: the commits within, and what is shallow
// behind it.
func (f *fetcher) brings(wants []api.Id) (in, shallow []api.Id) {
	was := f.s.State().Shallow
	var cut []api.Id
	switch f.below(3) {
	case 0:
		in, cut, _ = depth.By(f.g, wants, 1+f.below(5))
	case 1:
		in, cut, _ = depth.Since(f.g, wants, float64(f.below(20))/2)
	case 2:
		return depth.Stop(f.g, wants, was), was
	}
	shallow, _ = depth.Merge(was, in, cut)
	return in, shallow
}

// filter is a thrown one, mostly such as leaves out nothing if plain.
func (f *fetcher) filter(plain bool) api.Filter {
	if plain {
		return api.Filter{}
	}
	return one(&f.coin, []api.Filter{{}, {Kind: 1}, {Kind: 2, Limit: 6}, {Kind: 3, Depth: 0}, {Kind: 3, Depth: 1}, {Kind: 3, Depth: 2}})
}

// fetch is what a thrown fetch would have the store hold.
type fetch struct {
	objects  []api.Object
	promised bool
	shallow  []api.Id
	refs     []api.Ref
}

func (f *fetcher) fetch(plain bool) fetch {
	var x fetch
	var wants []api.Id
	for at := range 1 + f.below(4) {
		wants = append(wants, one(&f.coin, f.tips))
		x.refs = append(x.refs, api.Ref{Name: fmt.Sprint("r", at), Id: wants[at]})
	}
	by := f.filter(plain)
	x.promised = by.Kind != 0 || f.s.State().Filtered
	var in []api.Id
	in, x.shallow = f.brings(wants)
	for _, id := range filter.Select(f.g, in, by) {
		if o, _ := f.g.Get(id); !f.s.Has(id) {
			x.objects = append(x.objects, o)
		}
	}
	x.objects = mixed(&f.coin, x.objects)
	return x
}

func (x fetch) install(s *store.Store) api.Errno {
	return s.Install(x.objects, x.promised, x.shallow, x.refs)
}

// behind is what would be held behind x.
func (x fetch) behind(was store.State) store.State {
	y := cloned(was)
	y.Objects, y.Shallow, y.Refs = append(y.Objects, x.objects...), x.shallow, x.refs
	if x.promised {
		y.Promised = append(y.Promised, names(x.objects...)...)
	}
	return y
}

// isWhole asks that Check finds nothing wrong with what f holds.
func (f *fetcher) isWhole(t *testing.T, what string) {
	t.Helper()
	if e, id := link.Check(f.s.State()); e != api.OK || id != (api.Id{}) {
		t.Fatalf("H1: %s: Check %d, %x", what, e, id)
	}
}

// H1: all is there behind whatever thrown fetches, and where one is cut off.
func TestThrownFetches(t *testing.T) {
	seen := map[string]int{}
	for round := range 200 {
		f := newFetcher(coin(round), 2+round%25)
		for step := range 8 {
			what := fmt.Sprintf("the thrown fetches %d, step %d", round, step)
			f.isWhole(t, what+", ahead")
			x := f.fetch(round%3 == 0)
			if e, id := link.Check(x.behind(f.s.State())); e != api.OK || id != (api.Id{}) {
				t.Fatalf("H1: %s: Check of what would be held: %d, %x", what, e, id)
			}
			if f.below(3) == 0 {
				f.d.Fuse(f.below(3))
			}
			e := x.install(f.s)
			seen[fmt.Sprint("Install ", e)]++
			f.isWhole(t, what)
			if e != api.OK {
				f.d.Crash(uint64(f.below(4)))
				f.s, _ = store.Open(f.d)
				f.isWhole(t, what+", behind a Crash")
			}
			f.d.Fuse(-1)
			seen[fmt.Sprintf("Filtered %v, shallow %v, away %v", f.s.State().Filtered, len(x.shallow) > 0, len(link.Away(f.s.State())) > 0)]++
		}
	}
	for _, what := range []string{"Install 0", "Install 6", "Filtered true, shallow true, away true", "Filtered true, shallow false, away true", "Filtered true, shallow true, away false", "Filtered false, shallow true, away false", "Filtered false, shallow false, away false"} {
		if seen[what] < 20 {
			t.Errorf("the thrown fetches see %q too seldom: %v", what, seen)
		}
	}
}

// Of what leaves out nothing, each object that is lost on the way is found.
func TestLostOnTheWay(t *testing.T) {
	lost := 0
	for round := range 60 {
		f := newFetcher(coin(900+round), 2+round%15)
		for range 4 {
			x := f.fetch(true)
			for at := range x.objects {
				y := x
				y.objects = slices.Delete(slices.Clone(x.objects), at, at+1)
				if e, id := link.Check(y.behind(f.s.State())); e != api.ErrLink || id != name(x.objects[at]) {
					t.Fatalf("H1: the thrown fetches %d: Check without %x: %d, %x", round, name(x.objects[at]), e, id)
				}
				lost++
			}
			if e := x.install(f.s); e != api.OK {
				t.Fatalf("Install: %d", e)
			}
		}
	}
	if lost < 1000 {
		t.Errorf("too few are lost on the way: %d", lost)
	}
}

// What is Away is what may be fetched: brought one by one, promised, it leaves
// nothing away in the end.
func TestAwayIsFetched(t *testing.T) {
	brought := 0
	for round := range 60 {
		f := newFetcher(coin(500+round), 2+round%15)
		for range 3 {
			f.fetch(false).install(f.s)
		}
		for {
			x := f.s.State()
			away := link.Away(x)
			if len(away) == 0 {
				break
			}
			id := one(&f.coin, away)
			o, there := f.g.Get(id)
			if !there || f.s.Has(id) {
				t.Fatalf("P18.1: the thrown fetches %d: Away tells %x: there: %v, held: %v", round, id, there, f.s.Has(id))
			}
			if e := f.s.Install([]api.Object{o}, true, x.Shallow, x.Refs); e != api.OK {
				t.Fatalf("Install: %d", e)
			}
			f.isWhole(t, fmt.Sprintf("the thrown fetches %d, with one more", round))
			brought++
		}
	}
	if brought < 200 {
		t.Errorf("too few are away: %d", brought)
	}
}

package depth_test

import (
	"fmt"
	"math"
	"slices"
	"testing"

	"colporteur/api"
	"colporteur/depth"
	"colporteur/walk"
)

// paper is a history as the chapter's words go: its commits in a row, the older
// ones ahead, out of which it works out anew whatever it tells.
type paper struct {
	ids     []api.Id
	commits []api.Commit
}

// far is how many parents lead at least from one of wants to each commit; none:
// nothing leads there. A want that ends leads to itself alone.
func (p paper) far(wants []api.Id, ends []api.Id) []int {
	found := slices.Repeat([]int{none}, len(p.ids))
	// Children stand behind their parents.
	for at := len(p.ids) - 1; at >= 0; at-- {
		if slices.Contains(wants, p.ids[at]) {
			found[at] = 0
			continue
		}
		for child, c := range p.commits {
			if slices.Contains(c.Parents, p.ids[at]) && !slices.Contains(ends, p.ids[child]) && found[child] != none {
				found[at] = min(found[at], found[child]+1)
			}
		}
	}
	return found
}

const none = math.MaxInt

// those are the names for whose places is holds.
func (p paper) those(is func(at int) bool) []api.Id {
	var ids []api.Id
	for at, id := range p.ids {
		if is(at) {
			ids = append(ids, id)
		}
	}
	return rising(ids)
}

// cut are those of in that have a parent outside.
func (p paper) cut(in []api.Id) []api.Id {
	return p.those(func(at int) bool {
		outside := 0
		for _, parent := range p.commits[at].Parents {
			if !slices.Contains(in, parent) {
				outside++
			}
		}
		return outside > 0 && slices.Contains(in, p.ids[at])
	})
}

func (p paper) by(wants []api.Id, d int) (in, cut []api.Id, e api.Errno) {
	if d == 0 || d > 1000 {
		return nil, nil, api.ErrDepth
	}
	far := p.far(wants, nil)
	in = p.those(func(at int) bool { return far[at] != none && (d < 0 || far[at] < d) })
	return in, p.cut(in), api.OK
}

// since goes from parents to children: a commit is in if it is wanted, or is not
// before t and a child of it is in.
func (p paper) since(wants []api.Id, t float64) (in, cut []api.Id, e api.Errno) {
	if t != t || t > math.MaxFloat64 || t < -math.MaxFloat64 {
		return nil, nil, api.ErrDepth
	}
	var isIn func(at int) bool
	known := map[int]bool{}
	isIn = func(at int) bool {
		is, ok := known[at]
		if !ok {
			is = slices.Contains(wants, p.ids[at])
			for child := at + 1; child < len(p.ids) && !is; child++ {
				is = p.commits[at].When >= t && slices.Contains(p.commits[child].Parents, p.ids[at]) && isIn(child)
			}
			known[at] = is
		}
		return is
	}
	in = p.those(isIn)
	return in, p.cut(in), api.OK
}

func (p paper) stop(wants, shallow []api.Id) []api.Id {
	far := p.far(wants, shallow)
	return p.those(func(at int) bool { return far[at] != none })
}

// merged goes over all names that there are in the three lists.
func merged(old, in, cut []api.Id) (shallow, gone []api.Id) {
	for _, id := range rising(slices.Concat(old, in, cut)) {
		isOld, isIn, isCut := slices.Contains(old, id), slices.Contains(in, id), slices.Contains(cut, id)
		if isCut || isOld && !isIn {
			shallow = append(shallow, id)
		} else if isOld {
			gone = append(gone, id)
		}
	}
	return shallow, gone
}

// thrower throws a history, and questions about it.
type thrower struct {
	coin
	g     *walk.Graph
	p     paper
	empty []api.Id // names of no commits
}

// throwHistory makes one of n commits; with holes, some have parents that are not
// there, or are none.
func throwHistory(seed coin, n int, holes bool) *thrower {
	s := shelfOf("")
	c := &thrower{coin: seed, g: s.graph(), empty: s.ids("blob tree zero gone lost")}
	back := 1 + c.below(6)
	for at := range n {
		var parents []api.Id
		for range min(c.below(3)+c.below(2)+c.below(2), at) {
			parent := c.p.ids[max(0, at-1-c.below(back))]
			if holes && c.below(12) == 0 {
				parent = one(&c.coin, c.empty)
			}
			if !slices.Contains(parents, parent) {
				parents = append(parents, parent)
			}
		}
		o := commitOf(api.Commit{Tree: s.id("tree"), Parents: parents, When: c.time(), Note: fmt.Sprint(at)})
		// Most histories rise.
		if seed%4 > 0 && c.below(5) > 0 {
			o.Commit.When = float64(at) / 2
		}
		c.g.Add(o)
		c.p.ids, c.p.commits = append(c.p.ids, name(o)), append(c.p.commits, o.Commit)
	}
	return c
}

// time is one at which a commit may be made.
func (c *thrower) time() float64 {
	if c.below(6) == 0 {
		return one(&c.coin, times)
	}
	return float64(c.below(30)-3) / 2
}

// limit is a time, or none.
func (c *thrower) limit() float64 {
	if c.below(12) == 0 {
		return one(&c.coin, []float64{math.NaN(), math.Inf(1), math.Inf(-1), lowNought})
	}
	return c.time()
}

func (c *thrower) depth() int {
	if c.below(10) == 0 {
		return one(&c.coin, []int{math.MinInt, -1, 0, 999, 1000, 1001, math.MaxInt})
	}
	return c.below(9) + 1
}

// names are n thrown ones at most, some of them of no commits.
func (c *thrower) names(n int) []api.Id {
	var ids []api.Id
	for range c.below(n + 1) {
		list := c.p.ids
		switch c.below(8) {
		case 0:
			list = c.empty
		case 1, 2, 3:
			list = list[max(0, len(list)-4):]
		}
		if len(list) > 0 {
			ids = append(ids, one(&c.coin, list))
		}
	}
	return ids
}

// differ is what is told otherwise than the paper has it, of thrown questions;
// seen counts what came of them.
func (c *thrower) differ(seen map[string]int) string {
	wants, shallow, d, t := c.names(4), c.names(8), c.depth(), c.limit()
	in, cut, e := depth.By(c.g, wants, d)
	wantIn, wantCut, wantErr := c.p.by(wants, d)
	note(seen, "By", in, cut, e, len(wants))
	if !slices.Equal(in, wantIn) || !slices.Equal(cut, wantCut) || e != wantErr {
		return fmt.Sprintf("By of %x, %d: %x, %x, %d, not %x, %x, %d", wants, d, in, cut, e, wantIn, wantCut, wantErr)
	}
	young, ends, e := depth.Since(c.g, wants, t)
	wantIn, wantCut, wantErr = c.p.since(wants, t)
	note(seen, "Since", young, ends, e, len(wants))
	if !slices.Equal(young, wantIn) || !slices.Equal(ends, wantCut) || e != wantErr {
		return fmt.Sprintf("Since of %x, %v: %x, %x, %d, not %x, %x, %d", wants, t, young, ends, e, wantIn, wantCut, wantErr)
	}
	got, want := depth.Stop(c.g, wants, shallow), c.p.stop(wants, shallow)
	note(seen, "Stop", got, nil, api.OK, len(wants))
	if len(got) < len(c.g.Commits(wants...)) {
		seen["a Stop that stops"]++
	}
	if !slices.Equal(got, want) {
		return fmt.Sprintf("Stop of %x, %x: %x, not %x", wants, shallow, got, want)
	}
	for _, x := range [][3][]api.Id{{cut, young, ends}, {ends, in, cut}, {shallow, in, wants}, {shallow, got, cut}} {
		after, gone := depth.Merge(x[0], x[1], x[2])
		wantAfter, wantGone := merged(x[0], x[1], x[2])
		note(seen, "Merge", after, gone, api.OK, 9)
		if !slices.Equal(after, wantAfter) || !slices.Equal(gone, wantGone) {
			return fmt.Sprintf("Merge of %x: %x, %x, not %x, %x", x, after, gone, wantAfter, wantGone)
		}
	}
	return ""
}

// note counts what was told.
func note(seen map[string]int, what string, first, second []api.Id, e api.Errno, wants int) {
	if e != api.OK {
		seen[what+" fails"]++
	}
	if len(first) > wants {
		seen[what+" tells more than wants"]++
	}
	if len(second) > 0 {
		seen[what+" tells a second list"]++
	}
	if len(second) > 1 {
		seen[what+" tells a longer second list"]++
	}
}

func TestThrownHistories(t *testing.T) {
	seen := map[string]int{}
	for round := range 2000 {
		c := throwHistory(coin(round), round%40, round%3 == 0)
		for range 10 {
			if bad := c.differ(seen); bad != "" {
				t.Fatalf("P16.1: the thrown history %d: %s", round, bad)
			}
		}
	}
	for _, what := range []string{
		"By fails", "By tells more than wants", "By tells a second list", "By tells a longer second list", "Since fails", "Since tells more than wants", "Since tells a second list", "Since tells a longer second list",
		"Stop tells more than wants", "a Stop that stops", "Merge tells a second list", "Merge tells a longer second list",
	} {
		if seen[what] < 300 {
			t.Errorf("the thrown histories see %q too seldom: %v", what, seen)
		}
	}
}

// held is what somebody has who fetched from a history over and over.
type held struct{ commits, shallow []api.Id }

// fetch takes what a thrown fetch brings: one that deepens, or one that ends
// where they are shallow.
func (h *held) fetch(c *thrower) string {
	wants := c.names(3)
	in, cut, e := depth.By(c.g, wants, c.depth())
	how := c.below(3)
	if how == 0 {
		in, cut, e = depth.Since(c.g, wants, c.limit())
	}
	if how == 1 {
		h.commits = rising(append(h.commits, depth.Stop(c.g, wants, h.shallow)...))
		return "stopped"
	}
	if e != api.OK {
		return "failed"
	}
	shallow, gone := depth.Merge(h.shallow, in, cut)
	h.commits, h.shallow = rising(append(h.commits, in...)), shallow
	if len(gone) > 0 {
		return "deepened"
	}
	return "more"
}

// lacks is a commit that is held and is not shallow, and of which a parent is not
// held.
func (h *held) lacks(p paper) (api.Id, bool) {
	for at, id := range p.ids {
		if !slices.Contains(h.commits, id) || slices.Contains(h.shallow, id) {
			continue
		}
		for _, parent := range p.commits[at].Parents {
			if !slices.Contains(h.commits, parent) {
				return id, true
			}
		}
	}
	return api.Id{}, false
}

// H2: behind whatever fetches, all parents of all that is not shallow are held.
func TestThrownFetches(t *testing.T) {
	seen := map[string]int{}
	for round := range 400 {
		c := throwHistory(coin(5000+round), 5+round%40, false)
		var h held
		for range 12 {
			came := h.fetch(c)
			seen[came]++
			if id, ok := h.lacks(c.p); ok {
				t.Fatalf("H2: the thrown fetches %d, %s: %x is not shallow, and a parent is not held", round, came, id)
			}
			for _, id := range h.shallow {
				if !slices.Contains(h.commits, id) {
					t.Fatalf("H2: the thrown fetches %d, %s: %x is shallow, and is not held", round, came, id)
				}
			}
		}
	}
	for _, came := range []string{"deepened", "more", "stopped", "failed"} {
		if seen[came] < 100 {
			t.Errorf("the thrown fetches see %q too seldom: %v", came, seen)
		}
	}
}

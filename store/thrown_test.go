package store_test

import (
	"fmt"
	"math"
	"slices"
	"testing"

	"colporteur/api"
	"colporteur/disk"
	"colporteur/store"
)

// coin throws numbers, the same ones each time.
type coin uint64

// below is one below n.
func (c *coin) below(n int) int {
	*c = *c*6364136223846793005 + 1442695040888963407
	return int(uint64(*c>>33) % uint64(n))
}

// bits are some of sixty-four: none, all, or some of the lowest.
func (c *coin) bits() uint64 {
	switch c.below(6) {
	case 0:
		return 0
	case 1:
		return math.MaxUint64
	}
	return uint64(c.below(256))
}

// some are so many of list, one perhaps twice.
func some[E any](c *coin, list []E, n int) []E {
	var found []E
	for range n {
		found = append(found, list[c.below(len(list))])
	}
	return found
}

// call is a thrown one, seldom one that may not be.
func (c *coin) call(objects []api.Object) call {
	x := call{promised: c.below(2) == 0, shallow: some(c, ids(1, 2, 3, 4, 5, 6), c.below(5))}
	x.os = some(c, objects, c.below(6))
	for _, r := range some(c, numbered(20), c.below(4)) {
		r.Id = id(c.below(3))
		x.refs = append(x.refs, r)
	}
	switch c.below(40) {
	case 0:
		x.os = append(x.os, some(c, wrong(), 1)...)
	case 1:
		x.refs = append(x.refs, refsOf(some(c, badNames(), 1)...)...)
	case 2:
		x.refs = numbered(15 + c.below(4))
	case 3:
		x.os = some(c, objects, 199+c.below(4))
	case 4:
		x.os, x.refs = blobs(c.below(300), 150), numbered(16)
	}
	return x
}

// both is a store, and a paper that is led beside it.
type both struct {
	d      *disk.Disk
	s      *store.Store
	p      paper
	down   bool  // the store was told so
	unsure *call // the Install that was cut off
}

// install does x on both.
func (b *both) install(x call) string {
	want, wasDown := x.wants(), b.d.Down()
	e := x.install(b.s)
	switch {
	case b.down:
		want = api.ErrDown
	case want == api.OK && b.d.Down():
		want, b.down = api.ErrDown, true
		if !wasDown {
			b.unsure = &x
		}
	case want == api.OK:
		b.p = append(b.p, x)
	}
	if e != want {
		return fmt.Sprintf("%d, not %d", e, want)
	}
	return ""
}

// crash is a Crash, and Open behind it, perhaps cut off too: what comes of it,
// and what is wrong.
func (b *both) crash(c *coin) (came, wrong string) {
	b.d.Crash(c.bits())
	for range c.below(3) {
		b.d.Fuse(c.below(3))
		store.Open(b.d)
		b.d.Crash(c.bits())
	}
	s, e := store.Open(b.d)
	if e != api.OK {
		return "", fmt.Sprint("Open: ", e)
	}
	came = "nothing"
	if b.unsure != nil {
		came = "what was ahead"
		behind := append(slices.Clip(b.p), *b.unsure)
		got := show(s.State())
		if got == show(behind.state()) && got != show(b.p.state()) {
			b.p, came = behind, "what was behind"
		}
	}
	b.s, b.down, b.unsure = s, false, nil
	return came, ""
}

// open opens the disk anew, while the store goes on.
func (b *both) open() string {
	s, e := store.Open(b.d)
	switch {
	case b.d.Down():
		if s != nil || e != api.ErrDown {
			return fmt.Sprint("Open of what is Down: ", e)
		}
	case e != api.OK:
		return fmt.Sprint("Open: ", e)
	case show(s.State()) != show(b.p.state()):
		return "Open tells " + show(s.State())
	default:
		b.s = s
	}
	return ""
}

// step takes a thrown one: what came of it, and what is wrong.
func (b *both) step(c *coin, objects []api.Object) (came, wrong string) {
	switch c.below(12) {
	case 0, 1:
		b.d.Fuse(c.below(5) - 1)
		return "Fuse", ""
	case 2:
		return "Open", b.open()
	case 3:
		b.d.Write(others[c.below(len(others))], "x")
		return "Write", ""
	case 4, 5:
		came, wrong := b.crash(c)
		return "Crash to " + came, wrong
	}
	x := c.call(objects)
	wrong = b.install(x)
	came = fmt.Sprint("Install ", x.wants())
	if b.down {
		came = "Install 6"
	}
	return came, wrong
}

// same is what the store tells otherwise than the paper.
func (b *both) same() string {
	want := store.State{}
	if !b.down {
		want = b.p.state()
	}
	if got := b.s.State(); show(got) != show(want) {
		return fmt.Sprintf("State %s, not %s", show(got), show(want))
	}
	every := names(want.Objects...)
	for _, o := range samples() {
		id := name(o)
		held := slices.Contains(every, id)
		if _, ok := b.s.Get(id); ok != held || b.s.Has(id) != held || b.s.Promised(id) != slices.Contains(want.Promised, id) {
			return fmt.Sprintf("of %x Get: %v, Has: %v, Promised: %v", id, ok, b.s.Has(id), b.s.Promised(id))
		}
	}
	return ""
}

func TestThrownScripts(t *testing.T) {
	c := coin(5)
	objects := append(samples(), blobs(0, 10)...)
	seen := map[string]int{}
	for round := range 300 {
		d := disk.New()
		b := &both{d: d, s: opened(t, d)}
		for range 10 + c.below(30) {
			came, wrong := b.step(&c, objects)
			// A disk that went Down by what is no Install's doing: the store
			// was not told yet.
			if wrong == "" && (b.down || !d.Down()) {
				wrong = b.same()
			}
			if wrong != "" {
				t.Fatalf("P14.1, H4: the thrown script %d, %s: %s", round, came, wrong)
			}
			seen[came]++
		}
	}
	for _, what := range []string{"Install 0", "Install 1", "Install 5", "Install 6", "Crash to nothing", "Crash to what was ahead", "Crash to what was behind", "Open", "Write", "Fuse"} {
		if seen[what] < 40 {
			t.Errorf("the thrown scripts see %q too seldom: %v", what, seen)
		}
	}
}

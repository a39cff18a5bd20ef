package store_test

import (
	"fmt"
	"testing"

	"colporteur/api"
	"colporteur/disk"
	"colporteur/store"
)

// cut is an Install that is cut off, on a disk that has other files beside.
type cut struct {
	calls  []call // the last one is cut off
	beside int    // files that are sure
	unsure int    // files that are not
	fuse   int
	keep   uint64
}

// install does all of it but the Crash, and tells what the Install told.
func (c cut) install(t *testing.T) (*disk.Disk, *store.Store, api.Errno) {
	t.Helper()
	last := len(c.calls) - 1
	d, s := filled(t, c.calls[:last]...)
	beside(d, c.beside)
	for at := range c.unsure {
		d.Write(others[at], "unsure")
	}
	d.Fuse(c.fuse)
	return d, s, c.calls[last].install(s)
}

// crashed is the disk behind all of it.
func (c cut) crashed(t *testing.T) *disk.Disk {
	t.Helper()
	d, _, _ := c.install(t)
	d.Crash(c.keep)
	return d
}

// takes is how many operations the Install does that is not cut off.
func (c cut) takes(t *testing.T) int {
	t.Helper()
	c.fuse = 0
	d, _, _ := c.install(t)
	was := d.Ops()
	c.fuse = -1
	d, _, e := c.install(t)
	if e != api.OK {
		t.Fatalf("P14.1: Install that is not cut off: %d", e)
	}
	return d.Ops() - was
}

// cutCalls are calls, of which the last one is to be cut off.
func cutCalls() map[string][]call {
	a, b := blobOf("a"), samples()[9]
	some := call{os: []api.Object{a, b}, promised: true, shallow: ids(1), refs: refsOf("m")}
	return map[string][]call{
		"nothing at first":             {{}},
		"all at first":                 {some},
		"objects at first":             {plain(samples()...)},
		"another object":               {some, {os: []api.Object{blobOf("c")}, shallow: ids(1), refs: refsOf("m")}},
		"all anew":                     {some, {os: samples(), shallow: ids(2), refs: refsOf("n")}},
		"nothing":                      {some, {}},
		"what is held, promised still": {some, some},
		"promised no more":             {some, {os: some.os, shallow: some.shallow, refs: some.refs}},
		"Filtered":                     {plain(a), promised(a)},
		"another ref":                  {some, {shallow: ids(1), refs: []api.Ref{{Name: "m", Id: id(8)}}}},
		"another shallow name":         {some, {shallow: ids(2), refs: refsOf("m")}},
		"behind two":                   {some, plain(samples()...), promised(blobOf("z"))},
		"behind two packs":             {plain(blobs(0, 200)...), plain(blobs(200, 1)...), promised(blobs(201, 1)...)},
	}
}

// keeps are choices of what of n operations a Crash keeps: each one, and some
// that say something of operations that were not done.
func keeps(n int) []uint64 {
	found := []uint64{all, 1 << 63, all << n}
	for keep := range uint64(1) << n {
		found = append(found, keep, keep|1<<40)
	}
	return found
}

// eachCut does with all cuts of those calls.
func eachCut(t *testing.T, lists map[string][]call, do func(what string, c cut)) {
	for name, calls := range lists {
		for files := range 3 {
			c := cut{calls: calls, beside: files, unsure: (files * 2) % 3}
			takes := c.takes(t)
			for c.fuse = range takes + 3 {
				for _, c.keep = range keeps(takes + c.unsure) {
					do(fmt.Sprintf("Install of %s, %d and %d files beside, a Fuse of %d, kept %b", name, c.beside, c.unsure, c.fuse, c.keep), c)
				}
			}
		}
	}
}

func TestInstallCutOff(t *testing.T) {
	seen := map[string]int{}
	eachCut(t, cutCalls(), func(what string, c cut) {
		d, s, e := c.install(t)
		last := len(c.calls) - 1
		ahead, behind := paper(c.calls[:last]).state(), paper(c.calls).state()
		switch {
		case e == api.OK && !d.Down():
			if got := show(s.State()); got != show(behind) {
				t.Errorf("P14.1: %s: OK, but State %s", what, got)
			}
		case e == api.ErrDown && d.Down():
			isDown(t, what, s)
			d.Crash(c.keep)
			isDown(t, what+", behind the Crash", s)
		default:
			t.Errorf("P14.1: %s: %d, the disk is Down: %v", what, e, d.Down())
		}
		d.Crash(c.keep)
		got := show(opened(t, d).State())
		isAhead, isBehind := got == show(ahead), got == show(behind)
		if !isBehind && (!isAhead || e == api.OK) {
			t.Errorf("H4: %s: told %d, and Open tells %s", what, e, got)
		}
		if again := show(opened(t, d).State()); again != got {
			t.Errorf("H4: %s: opened again, it tells %s, not %s", what, again, got)
		}
		seen[fmt.Sprint(e, isAhead, isBehind)]++
	})
	for _, what := range []string{"0 false true", "6 true false", "6 false true"} {
		if seen[what] < 50 {
			t.Errorf("the cuts see %q too seldom: %v", what, seen)
		}
	}
}

func TestInstallIsDone(t *testing.T) {
	for name, calls := range cutCalls() {
		c := cut{calls: calls}
		takes := c.takes(t)
		for c.fuse = range takes + 4 {
			want := api.OK
			if c.fuse < takes {
				want = api.ErrDown
			}
			if _, _, e := c.install(t); e != want {
				t.Errorf("P14.1: Install of %s, which takes %d operations, with a Fuse of %d: %d, not %d", name, takes, c.fuse, e, want)
			}
		}
	}
}

// Open is cut off, too, anywhere, and then once more.
func TestOpenCutOff(t *testing.T) {
	opens := 0
	lists := cutCalls()
	delete(lists, "behind two packs") // long work, and no other file
	eachCut(t, lists, func(what string, c cut) {
		if c.keep > 4 {
			return
		}
		want := show(opened(t, c.crashed(t)).State())
		for fuse := range c.beside + c.unsure + 2 {
			for _, keep := range []uint64{0, 1, 2} {
				d := c.crashed(t)
				for _, keep := range []uint64{keep, ^keep} {
					d.Fuse(fuse)
					s, e := store.Open(d)
					if (e != api.OK || show(s.State()) != want) && (e != api.ErrDown || s != nil) {
						t.Errorf("H4: %s: Open with a Fuse of %d: %d", what, fuse, e)
					}
					if e == api.ErrDown {
						opens++
					}
					d.Crash(keep)
				}
				for range 2 {
					if got := show(opened(t, d).State()); got != want {
						t.Errorf("H4: %s: Open with a Fuse of %d, kept %b: opened again, it tells %s, not %s", what, fuse, keep, got, want)
					}
				}
			}
		}
	})
	if opens < 100 {
		t.Errorf("Open is cut off too seldom: %d", opens)
	}
}

// A store that goes on behind one that was cut off takes what comes.
func TestInstallBehindACut(t *testing.T) {
	eachCut(t, cutCalls(), func(what string, c cut) {
		if c.keep > 4 {
			return
		}
		d := c.crashed(t)
		s := opened(t, d)
		was := s.State()
		more := call{os: blobs(900, 2), promised: true, shallow: ids(5), refs: refsOf("more")}
		if e := more.install(s); e != api.OK {
			t.Errorf("H4: %s: Install behind it: %d", what, e)
		}
		x := s.State()
		if len(x.Objects) != len(was.Objects)+2 || len(x.Promised) != len(was.Promised)+2 || show(opened(t, crashed(d)).State()) != show(x) {
			t.Errorf("H4: %s: State behind another Install: %s", what, show(x))
		}
	})
}

// A Crash that cuts nothing off loses nothing that an Install told as done.
func TestInstallIsSure(t *testing.T) {
	for name, calls := range cutCalls() {
		for _, keep := range []uint64{0, 1, 2, 3, 5, all} {
			d, s := filled(t)
			for at, c := range calls {
				if e := c.install(s); e != api.OK {
					t.Fatalf("P14.1: Install: %d", e)
				}
				d.Crash(keep)
				want := paper(calls[:at+1]).state()
				if got := show(opened(t, d).State()); got != show(want) || show(s.State()) != got {
					t.Errorf("H4: Install of %s and a Crash, kept %b: %s", name, keep, got)
				}
			}
		}
	}
}

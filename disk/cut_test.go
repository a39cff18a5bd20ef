package disk_test

import (
	"fmt"
	"math"
	"strings"
	"testing"

	"colporteur/api"
	"colporteur/disk"
)

// operations are some of each kind, that can be done on the disk of sure, in
// any order.
func operations() map[string]func(d *disk.Disk) api.Errno {
	return map[string]func(d *disk.Disk) api.Errno{
		"Write":                  func(d *disk.Disk) api.Errno { return d.Write("c", "2") },
		"Write of what there is": func(d *disk.Disk) api.Errno { return d.Write("b", "2") },
		"Move":                   func(d *disk.Disk) api.Errno { return d.Move("b", "d") },
		"Move onto another":      func(d *disk.Disk) api.Errno { return d.Move("b", "a") },
		"Move onto itself":       func(d *disk.Disk) api.Errno { return d.Move("b", "b") },
		"Remove":                 func(d *disk.Disk) api.Errno { return d.Remove("b") },
		"Sync":                   func(d *disk.Disk) api.Errno { return d.Sync() },
	}
}

// isDown asks that all tell ErrDown but Ops.
func isDown(t *testing.T, what string, d *disk.Disk, wantOps int) {
	t.Helper()
	if !d.Down() {
		t.Errorf("P13.1: %s: not Down", what)
	}
	for _, name := range []string{"a", "b", "none", "", strings.Repeat("n", 101)} {
		tells(t, what+": Write", d.Write(name, "x"), api.ErrDown)
		tells(t, what+": Move", d.Move(name, "a"), api.ErrDown)
		tells(t, what+": Move of a", d.Move("a", name), api.ErrDown)
		tells(t, what+": Remove", d.Remove(name), api.ErrDown)
		if got, e := d.Read(name); got != "" || e != api.ErrDown {
			t.Errorf("P0.2, P13.1: %s: Read: %q, %d", what, got, e)
		}
	}
	tells(t, what+": Sync", d.Sync(), api.ErrDown)
	if got := d.Files(); len(got) != 0 {
		t.Errorf("P13.1: %s: Files: %q", what, got)
	}
	if !d.Down() {
		t.Errorf("P13.1: %s: not Down any more", what)
	}
	ops(t, what, d, wantOps)
}

// noOperations calls all that find an error, and all that are none.
func noOperations(t *testing.T, d *disk.Disk) {
	t.Helper()
	tells(t, "Write of no name", d.Write("", "x"), api.ErrForm)
	tells(t, "Write of too long a name", d.Write(strings.Repeat("n", 101), "x"), api.ErrForm)
	tells(t, "Move of none", d.Move("none", "x"), api.ErrNone)
	tells(t, "Move to no name", d.Move("a", ""), api.ErrForm)
	tells(t, "Remove of none", d.Remove("none"), api.ErrNone)
	if _, e := d.Read("none"); e != api.ErrNone {
		t.Errorf("P13.1: Read of none: %d", e)
	}
	if _, e := d.Read("a"); e != api.OK {
		t.Errorf("P13.1: Read of a: %d", e)
	}
	d.Files()
	d.Ops()
	if d.Down() {
		t.Error("P13.1: Down by what is no operation")
	}
}

func TestFuseBelowNought(t *testing.T) {
	for _, n := range []int{-1, -2, -100, math.MinInt32, math.MinInt, math.MinInt + 1} {
		d := sure(t)
		d.Fuse(n)
		for range 300 {
			done(t, d.Write("a", "1"), d.Sync())
		}
		holds(t, fmt.Sprint("a Fuse of ", n), d, "a=1 b=1")
	}
}

func TestFuseOfNought(t *testing.T) {
	for name, operation := range operations() {
		what := name + " with a Fuse of 0"
		d := sure(t)
		d.Fuse(0)
		holds(t, what+", ahead of it", d, "a=1 b=1")
		tells(t, what, operation(d), api.ErrDown)
		isDown(t, what, d, 3)
		d.Crash(all)
		holds(t, what+", and a Crash", d, "a=1 b=1")
	}
}

func TestFuse(t *testing.T) {
	for name, operation := range operations() {
		for n := 1; n <= 70; n++ {
			what := fmt.Sprint(name, " with a Fuse of ", n)
			d := sure(t)
			d.Fuse(n)
			for at := range n {
				done(t, d.Write("a", fmt.Sprint(at)))
			}
			holds(t, what+", ahead of it", d, fmt.Sprintf("a=%d b=1", n-1))
			tells(t, what, operation(d), api.ErrDown)
			isDown(t, what, d, 3+n)
			d.Crash(all)
			holds(t, what+", and a Crash", d, fmt.Sprintf("a=%d b=1", min(n, mostKept)-1))
		}
	}
}

func TestFuseTakesEachKind(t *testing.T) {
	for name, operation := range operations() {
		what := name + " with a Fuse of 1"
		d := sure(t)
		d.Fuse(1)
		tells(t, what, operation(d), api.OK)
		if d.Down() {
			t.Errorf("P13.1: %s: Down", what)
		}
		tells(t, "Sync behind "+what, d.Sync(), api.ErrDown)
		isDown(t, what, d, 4)
	}
}

func TestFuseOfMuch(t *testing.T) {
	for _, n := range []int{math.MaxInt, math.MaxInt - 1, 1 << 32, math.MaxInt32} {
		d := disk.New()
		d.Fuse(n)
		for range 300 {
			done(t, d.Write("a", "1"))
		}
		holds(t, fmt.Sprint("a Fuse of ", n), d, "a=1")
	}
}

func TestFuseAnew(t *testing.T) {
	for _, was := range []int{-1, 0, 1, 2, 5, math.MaxInt, math.MinInt} {
		for n := range 4 {
			what := fmt.Sprintf("a Fuse of %d behind one of %d", n, was)
			for ahead := range min(max(was, 0), 2) + 1 {
				d := disk.New()
				d.Fuse(was)
				for range ahead {
					done(t, d.Sync())
				}
				d.Fuse(n)
				for range n {
					tells(t, what, d.Write("a", "1"), api.OK)
				}
				tells(t, what, d.Write("b", "1"), api.ErrDown)
				isDown(t, what, d, ahead+n)
			}
		}
		d := disk.New()
		d.Fuse(was)
		d.Fuse(-1)
		for range 10 {
			tells(t, fmt.Sprintf("no Fuse behind one of %d", was), d.Sync(), api.OK)
		}
	}
}

func TestFuseOfWhatIsNoOperation(t *testing.T) {
	for n := range 4 {
		d := sure(t)
		d.Fuse(n)
		for range n {
			for range 5 {
				noOperations(t, d)
			}
			done(t, d.Write("a", "2"))
		}
		for range 5 {
			noOperations(t, d)
		}
		tells(t, "the one behind the fuse", d.Write("a", "3"), api.ErrDown)
		isDown(t, "the one behind the fuse", d, 3+n)
	}
	d := filled(t, mostFiles)
	d.Fuse(0)
	for range 3 {
		tells(t, "Write without room, with a Fuse of 0", d.Write("more", ""), api.ErrLimit)
	}
	if d.Down() {
		t.Error("P13.1: Down by a Write without room")
	}
}

func TestFuseOfWhatIsDown(t *testing.T) {
	for _, n := range []int{-1, 0, 1, 5, math.MinInt, math.MaxInt} {
		what := fmt.Sprintf("a Fuse of %d of what is Down", n)
		d := sure(t)
		d.Fuse(0)
		d.Sync()
		d.Fuse(n)
		isDown(t, what, d, 3)
		d.Fuse(n)
		d.Crash(0)
		for range 10 {
			tells(t, what+", and a Crash", d.Sync(), api.OK)
		}
		holds(t, what+", and a Crash", d, "a=1 b=1")
	}
}

// script is five operations, on the disk of sure.
func script(t *testing.T, d *disk.Disk) {
	t.Helper()
	done(t, d.Write("a", "2"), d.Move("a", "x"), d.Remove("b"), d.Move("x", "b"), d.Write("c", "5"))
}

// kept is what a Crash makes of the disk of script.
func kept() map[uint64]string {
	return map[uint64]string{
		0: "a=1 b=1", 1: "a=2 b=1", 2: "b=1 x=1", 4: "a=1", 8: "a=1 b=1", 16: "a=1 b=1 c=5",
		3: "b=1 x=2", 5: "a=2", 6: "x=1", 7: "x=2", 9: "a=2 b=1", 10: "b=1", 11: "b=2", 12: "a=1", 14: "b=1", 15: "b=2",
		17: "a=2 b=1 c=5", 20: "a=1 c=5", 22: "c=5 x=1", 30: "b=1 c=5", 31: "b=2 c=5",
		all: "b=2 c=5", 31 | 1<<63: "b=2 c=5", all - 31: "a=1 b=1", 32: "a=1 b=1", 1 << 40: "a=1 b=1", 1 << 63: "a=1 b=1", 1<<37 | 1: "a=2 b=1", 1 << 32: "a=1 b=1",
	}
}

func TestCrash(t *testing.T) {
	for keep, want := range kept() {
		for _, cut := range []bool{false, true} {
			what := fmt.Sprintf("Crash, kept %b, was Down: %v", keep, cut)
			d := sure(t)
			if cut {
				d.Fuse(5)
			}
			script(t, d)
			holds(t, what+", ahead of it", d, "b=2 c=5")
			if cut {
				tells(t, what, d.Sync(), api.ErrDown)
			}
			d.Crash(keep)
			holds(t, what, d, want)
			ops(t, what, d, 8)
			for _, again := range []uint64{0, 1, keep, all, 0} {
				d.Crash(again)
				holds(t, what+", and another one", d, want)
			}
		}
	}
}

// The operation that the fuse cuts off has no bit, nor has one that finds an
// error.
func TestCrashKeepsWhatWasDone(t *testing.T) {
	for keep, want := range map[uint64]string{0: "a=1 b=1", 1: "a=1 b=1 c=2", 2: "b=1", 3: "b=1 c=2", 4: "a=1 b=1", all: "b=1 c=2"} {
		d := sure(t)
		noOperations(t, d)
		done(t, d.Write("c", "2"))
		noOperations(t, d)
		done(t, d.Remove("a"))
		d.Fuse(0)
		tells(t, "Write with a Fuse of 0", d.Write("d", "3"), api.ErrDown)
		tells(t, "Write of what is Down", d.Write("d", "3"), api.ErrDown)
		d.Crash(keep)
		holds(t, fmt.Sprintf("Crash behind errors, kept %b", keep), d, want)
	}
}

// Nothing was ever sure of a new disk but that it has no files.
func TestCrashOfANewDisk(t *testing.T) {
	for keep, want := range map[uint64]string{0: "", 1: "a=1", 2: "b=2", 3: "a=1 b=2", 4: "", 7: "b=2 c=1", 6: "b=2", all: "b=2 c=1"} {
		d := disk.New()
		d.Crash(keep)
		holds(t, "Crash of nothing", d, "")
		done(t, d.Write("a", "1"), d.Write("b", "2"), d.Move("a", "c"))
		d.Crash(keep)
		holds(t, fmt.Sprintf("Crash of a new disk, kept %b", keep), d, want)
	}
}

func TestCrashMakesAllSure(t *testing.T) {
	for keep, want := range kept() {
		d := sure(t)
		script(t, d)
		d.Crash(keep)
		// Bits count from the Crash on.
		done(t, d.Write("z", "9"), d.Write("a", "9"))
		d.Crash(1)
		holds(t, fmt.Sprintf("two Crashes, kept %b ahead", keep), d, want+" z=9")
		done(t, d.Remove("z"))
		d.Crash(0)
		holds(t, "the third Crash", d, want+" z=9")
	}
}

func TestCrashPutsTheFuseOut(t *testing.T) {
	for n := range 5 {
		for _, keep := range []uint64{0, all} {
			d := sure(t)
			d.Fuse(n)
			for range n {
				done(t, d.Write("a", "1"))
			}
			d.Crash(keep)
			for range 10 {
				tells(t, fmt.Sprintf("behind a Crash with a Fuse of %d that is burnt", n), d.Sync(), api.OK)
			}
			d.Fuse(n)
			d.Crash(keep)
			for range 10 {
				tells(t, fmt.Sprintf("behind a Crash with a Fuse of %d", n), d.Write("a", "1"), api.OK)
			}
			d.Fuse(n)
			for range n {
				done(t, d.Sync())
			}
			tells(t, "a fuse lit behind a Crash", d.Sync(), api.ErrDown)
		}
	}
}

func TestCrashOfWhatCannotBeDone(t *testing.T) {
	for _, x := range []struct {
		what string
		do   func(d *disk.Disk) []api.Errno
		keep uint64
		want string
	}{
		{"a Move of what was not written", func(d *disk.Disk) []api.Errno { return []api.Errno{d.Write("c", "2"), d.Move("c", "a")} }, 2, "a=1 b=1"},
		{"a Move of what is removed, too", func(d *disk.Disk) []api.Errno {
			return []api.Errno{d.Remove("a"), d.Write("a", "2"), d.Move("a", "c")}
		}, 5, "b=1"},
		{"a Move of what was moved away, too", func(d *disk.Disk) []api.Errno {
			return []api.Errno{d.Move("a", "c"), d.Move("c", "a"), d.Move("a", "b")}
		}, 5, "b=1 c=1"},
		{"a Remove of what was not written", func(d *disk.Disk) []api.Errno { return []api.Errno{d.Write("c", "2"), d.Remove("c")} }, 2, "a=1 b=1"},
		{"a Remove of what was removed ahead", func(d *disk.Disk) []api.Errno {
			return []api.Errno{d.Remove("a"), d.Write("a", "2"), d.Remove("a")}
		}, 5, "b=1"},
		{"what comes behind one that can't be done", func(d *disk.Disk) []api.Errno {
			return []api.Errno{d.Write("c", "2"), d.Move("c", "d"), d.Remove("d"), d.Write("e", "3"), d.Remove("a")}
		}, 30, "b=1 e=3"},
	} {
		d := sure(t)
		done(t, x.do(d)...)
		d.Crash(x.keep)
		holds(t, "Crash with "+x.what, d, x.want)
	}
}

func TestCrashWithoutRoom(t *testing.T) {
	for keep, x := range map[uint64]struct{ more, text string }{
		1: {"", ""}, 2: {"", ""}, 3: {"more", "2"}, 4: {"", ""}, 5: {"", ""}, 6: {"", ""}, 7: {"most", "2"}, 15: {"most", "4"}, 11: {"more", "2"}, 14: {"", ""}, 9: {"most", "4"}, 8: {"", ""}, all: {"most", "4"},
	} {
		d := filled(t, mostFiles)
		done(t, d.Sync(), d.Remove(numbered(0)), d.Write("more", "2"), d.Move("more", "most"), d.Write("most", "4"))
		d.Crash(keep)
		want := mostFiles
		if keep&1 == 1 && x.more == "" {
			want--
		}
		if n := len(d.Files()); n != want {
			t.Errorf("P13.1: Crash of a hundred files, kept %b: %d files, not %d", keep, n, want)
		}
		for _, name := range []string{"more", "most"} {
			got, e := d.Read(name)
			if name == x.more && (got != x.text || e != api.OK) || name != x.more && e != api.ErrNone {
				t.Errorf("P13.1: Crash of a hundred files, kept %b: Read of %s: %q, %d", keep, name, got, e)
			}
		}
	}
}

// A Move has room on a full disk, behind a Crash as ahead of one, and makes
// some where it takes another's place.
func TestCrashWithMovesOnAFullDisk(t *testing.T) {
	for keep, want := range map[uint64]string{0: "", 1: "", 2: "x=1", 3: "x=1", 4: "x=2", 6: "x=2", 8: "", 10: "x=1", 14: "x=2", 16: "", 24: "y=5", 30: "x=2 y=5", all: "x=2 y=5"} {
		d := filled(t, mostFiles)
		done(t, d.Sync(), d.Remove(numbered(0)), d.Move(numbered(1), "x"), d.Move(numbered(2), "x"), d.Move(numbered(3), numbered(4)), d.Write("y", "5"))
		d.Crash(keep)
		var found []string
		for _, name := range []string{"x", "y"} {
			if text, e := d.Read(name); e == api.OK {
				found = append(found, name+"="+text)
			}
		}
		if got := strings.Join(found, " "); got != want {
			t.Errorf("P13.1: Crash of a full disk, kept %b: %q, not %q", keep, got, want)
		}
	}
}

func TestCrashOfTheSixtyFifth(t *testing.T) {
	for _, n := range []int{1, 2, 31, 32, 33, 63, 64, 65, 66, 67, 99, 100} {
		for ahead := range 3 {
			// What was done ahead of the last Sync takes no bit.
			d := disk.New()
			for range ahead * 40 {
				done(t, d.Write("a", "1"))
			}
			done(t, d.Write("a", "1"), d.Remove("a"), d.Sync())
			for at := range n {
				done(t, d.Write(numbered(at), ""))
			}
			d.Crash(all)
			files := d.Files()
			if len(files) != min(n, mostKept) || files[len(files)-1] != numbered(len(files)-1) {
				t.Errorf("P13.1: Crash of %d operations: %q", n, files)
			}
		}
	}
	// Those behind the sixty-fourth are lost, even if what they wrote was there.
	d := disk.New()
	for at := range 200 {
		done(t, d.Write("a", fmt.Sprint(at)))
	}
	holds(t, "two hundred Writes", d, "a=199")
	d.Crash(all)
	holds(t, "two hundred Writes and a Crash", d, "a=63")
	for at := range 65 {
		done(t, d.Write("a", fmt.Sprint("anew ", at)))
	}
	done(t, d.Sync())
	d.Crash(0)
	holds(t, "Sync behind sixty-five", d, "a=anew 64")
}

func TestCrashOfEachBit(t *testing.T) {
	for bit := range 64 {
		for _, n := range []int{64, 70, 100} {
			d := disk.New()
			for at := range n {
				done(t, d.Write(numbered(at), fmt.Sprint(at)))
			}
			d.Crash(1 << bit)
			holds(t, fmt.Sprintf("Crash of %d operations, kept the bit %d", n, bit), d, fmt.Sprintf("%s=%d", numbered(bit), bit))
		}
		d := filled(t, mostKept)
		d.Crash(all ^ 1<<bit)
		if _, e := d.Read(numbered(bit)); e != api.ErrNone || len(d.Files()) != mostKept-1 {
			t.Errorf("P13.1: Crash, kept all but the bit %d: %d files, %d", bit, len(d.Files()), e)
		}
	}
}

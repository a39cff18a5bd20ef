package disk_test

import (
	"fmt"
	"math"
	"slices"
	"strings"
	"testing"

	"colporteur/api"
	"colporteur/disk"
)

const (
	mostFiles = 100
	mostName  = 100
	mostKept  = 64
	all       = math.MaxUint64 // each bit
)

// told is each file with what stands in it, as the disk tells them.
func told(d *disk.Disk) string {
	var found []string
	for _, file := range d.Files() {
		text, e := d.Read(file)
		if e != api.OK {
			text = fmt.Sprint("? ", e)
		}
		found = append(found, file+"="+text)
	}
	return strings.Join(found, " ")
}

// holds asks that a disk has just these files.
func holds(t *testing.T, what string, d *disk.Disk, want string) {
	t.Helper()
	if got := told(d); got != want || d.Down() {
		t.Errorf("P13.1: %s: the files are %q, not %q; Down: %v", what, got, want, d.Down())
	}
}

// tells asks that a call tells e.
func tells(t *testing.T, what string, got, want api.Errno) {
	t.Helper()
	if got != want {
		t.Errorf("P13.1: %s: %d, not %d", what, got, want)
	}
}

// done asks that all calls tell OK.
func done(t *testing.T, es ...api.Errno) {
	t.Helper()
	for at, e := range es {
		tells(t, fmt.Sprint("the call ", at), e, api.OK)
	}
}

// ops asks that so many operations were done.
func ops(t *testing.T, what string, d *disk.Disk, want int) {
	t.Helper()
	if got := d.Ops(); got != want {
		t.Errorf("P13.1: Ops behind %s: %d, not %d", what, got, want)
	}
}

// sure is a disk of a=1 and b=1, all sure by three operations.
func sure(t *testing.T) *disk.Disk {
	t.Helper()
	d := disk.New()
	done(t, d.Write("a", "1"), d.Write("b", "1"), d.Sync())
	return d
}

// numbered is the name of one of many files; they rise by their numbers.
func numbered(n int) string { return fmt.Sprintf("f%03d", n) }

// filled is a disk of so many numbered files, none of them sure.
func filled(t *testing.T, n int) *disk.Disk {
	t.Helper()
	d := disk.New()
	for at := range n {
		done(t, d.Write(numbered(at), fmt.Sprint(at)))
	}
	return d
}

// wrongNames are none of a file's.
func wrongNames() []string {
	var names []string
	for _, n := range []int{0, mostName + 1, mostName + 2, 127, 128, 200, 255, 256, 257, 300, 356, 1 << 16, 1<<16 + 1, 1 << 20} {
		names = append(names, strings.Repeat("n", n))
	}
	// Names are measured by their bytes, not by their runes.
	return append(names, strings.Repeat("\u20ac", 34), strings.Repeat("\u00e9", 51), strings.Repeat("\xff", 101), strings.Repeat("\x00", 101), strings.Repeat(" ", 101))
}

// rightNames are such that a file may have, be they as odd as they will.
func rightNames() []string {
	names := []string{"\u20ac", strings.Repeat("\u20ac", 33), strings.Repeat("\u00e9", 50), "a/b", "..", "/", "./a", "a b", "a\nb", "a\x00", "\x00a", "a\x00b", "A", "\xc3", "\xed\xa0\x80", "new", "a.tmp"}
	for b := range 256 {
		names = append(names, string([]byte{byte(b)}), strings.Repeat(string([]byte{byte(b)}), mostName))
	}
	for n := 1; n <= mostName; n++ {
		names = append(names, strings.Repeat("n", n))
	}
	return names
}

func TestWrite(t *testing.T) {
	d := disk.New()
	holds(t, "New", d, "")
	done(t, d.Write("b", "one"))
	holds(t, "a first file", d, "b=one")
	done(t, d.Write("c", "two"), d.Write("a", "three"))
	holds(t, "one behind and one ahead", d, "a=three b=one c=two")
	done(t, d.Write("b", "anew"))
	holds(t, "one that is there", d, "a=three b=anew c=two")
	done(t, d.Write("a", ""), d.Write("c", "two"))
	holds(t, "no byte, and the same bytes", d, "a= b=anew c=two")
}

func TestWriteOfEveryName(t *testing.T) {
	for _, name := range rightNames() {
		d := disk.New()
		tells(t, fmt.Sprintf("Write of %q", name), d.Write(name, "x"), api.OK)
		holds(t, fmt.Sprintf("Write of %q", name), d, name+"=x")
	}
}

func TestWriteOfNoName(t *testing.T) {
	for _, name := range wrongNames() {
		for _, text := range []string{"", "x"} {
			what := fmt.Sprintf("Write of a name of %d bytes", len(name))
			d := sure(t)
			tells(t, what, d.Write(name, text), api.ErrForm)
			holds(t, what, d, "a=1 b=1")
			ops(t, what, d, 3)
			d.Crash(all)
			holds(t, what, d, "a=1 b=1")
		}
	}
}

func TestWriteOfEveryByte(t *testing.T) {
	var each strings.Builder
	for b := range 256 {
		each.WriteByte(byte(b))
	}
	for _, text := range []string{"", "\x00", "\xff\xfe", each.String(), strings.Repeat(each.String(), 1<<12)} {
		d := disk.New()
		done(t, d.Write("a", text))
		if got, e := d.Read("a"); got != text || e != api.OK {
			t.Errorf("P13.1: Read of %d bytes: %d bytes, %d", len(text), len(got), e)
		}
	}
}

func TestWriteOfAHundredFiles(t *testing.T) {
	d := filled(t, mostFiles)
	full := told(d)
	if n := len(d.Files()); n != mostFiles {
		t.Errorf("P13.1: a hundred files: %d", n)
	}
	for _, name := range []string{"a", "f050x", "z"} {
		tells(t, "Write of one more", d.Write(name, "x"), api.ErrLimit)
		holds(t, "Write of one more", d, full)
	}
	ops(t, "a hundred files and more", d, mostFiles)
	for _, name := range wrongNames() {
		tells(t, "Write of one more of no name", d.Write(name, "x"), api.ErrForm)
	}
	for at := range mostFiles {
		tells(t, "Write of one of a hundred", d.Write(numbered(at), fmt.Sprint(at)), api.OK)
	}
	holds(t, "a hundred files written anew", d, full)
	ops(t, "a hundred files twice", d, 2*mostFiles)
	done(t, d.Remove(numbered(50)), d.Write("z", "x"))
	tells(t, "Write of one more again", d.Write(numbered(50), "x"), api.ErrLimit)
}

func TestMove(t *testing.T) {
	d := disk.New()
	done(t, d.Write("b", "one"), d.Write("d", "two"), d.Write("f", "three"))
	done(t, d.Move("d", "e"))
	holds(t, "Move between the same", d, "b=one e=two f=three")
	done(t, d.Move("e", "a"))
	holds(t, "Move to the front", d, "a=two b=one f=three")
	done(t, d.Move("a", "z"))
	holds(t, "Move to the end", d, "b=one f=three z=two")
	done(t, d.Move("z", "b"))
	holds(t, "Move onto one ahead", d, "b=two f=three")
	done(t, d.Move("b", "f"))
	holds(t, "Move onto one behind", d, "f=two")
	done(t, d.Move("f", "f"))
	holds(t, "Move onto itself", d, "f=two")
	done(t, d.Write("b", ""), d.Move("b", "f"))
	holds(t, "Move of no byte", d, "f=")
	ops(t, "Moves", d, 11)
}

func TestMoveOntoItself(t *testing.T) {
	d := sure(t)
	done(t, d.Move("a", "a"))
	holds(t, "Move onto itself", d, "a=1 b=1")
	ops(t, "Move onto itself", d, 4)
	d.Fuse(0)
	tells(t, "Move onto itself with a Fuse of 0", d.Move("a", "a"), api.ErrDown)
}

func TestMoveToEveryName(t *testing.T) {
	for _, name := range rightNames() {
		d := disk.New()
		done(t, d.Write("from", "x"))
		tells(t, fmt.Sprintf("Move to %q", name), d.Move("from", name), api.OK)
		holds(t, fmt.Sprintf("Move to %q", name), d, name+"=x")
		tells(t, fmt.Sprintf("Move from %q", name), d.Move(name, "to"), api.OK)
		holds(t, fmt.Sprintf("Move from %q", name), d, "to=x")
	}
}

func TestMoveToNoName(t *testing.T) {
	for _, name := range wrongNames() {
		what := fmt.Sprintf("Move to a name of %d bytes", len(name))
		d := sure(t)
		tells(t, what, d.Move("a", name), api.ErrForm)
		tells(t, what+", of what there is not", d.Move("c", name), api.ErrNone)
		tells(t, what+", from there", d.Move(name, name), api.ErrNone)
		tells(t, what+", from there back", d.Move(name, "a"), api.ErrNone)
		holds(t, what, d, "a=1 b=1")
		ops(t, what, d, 3)
		d.Crash(all)
		holds(t, what, d, "a=1 b=1")
	}
}

func TestMoveOfNone(t *testing.T) {
	d := disk.New()
	tells(t, "Move of none, with no file", d.Move("a", "b"), api.ErrNone)
	d = sure(t)
	for _, from := range []string{"", "A", "aa", "a\x00", " a", "c", "\xff"} {
		for _, to := range []string{"a", "b", "c", from} {
			tells(t, fmt.Sprintf("Move of %q to %q", from, to), d.Move(from, to), api.ErrNone)
		}
	}
	holds(t, "Move of none", d, "a=1 b=1")
	ops(t, "Move of none", d, 3)
	done(t, d.Move("a", "c"))
	tells(t, "Move of what was moved", d.Move("a", "c"), api.ErrNone)
	holds(t, "Move of what was moved", d, "b=1 c=1")
}

// There is room for each Move: what it moves makes it.
func TestMoveOfAHundredFiles(t *testing.T) {
	d := filled(t, mostFiles)
	done(t, d.Move(numbered(7), "a"), d.Move(numbered(8), "z"), d.Move(numbered(9), numbered(9)))
	if files := d.Files(); len(files) != mostFiles || files[0] != "a" || files[mostFiles-1] != "z" {
		t.Errorf("P13.1: Move of one of a hundred: %q", files)
	}
	tells(t, "Write of one more behind a Move", d.Write("more", ""), api.ErrLimit)
	done(t, d.Move("a", "z"))
	if n := len(d.Files()); n != mostFiles-1 {
		t.Errorf("P13.1: Move of one of a hundred onto another: %d files", n)
	}
	done(t, d.Write("more", ""))
	tells(t, "Write of one more behind another", d.Write("most", ""), api.ErrLimit)
	tells(t, "Move of none of a hundred", d.Move("a", "b"), api.ErrNone)
	tells(t, "Move of one of a hundred to no name", d.Move("z", ""), api.ErrForm)
}

func TestRemove(t *testing.T) {
	d := disk.New()
	tells(t, "Remove of none, with no file", d.Remove("a"), api.ErrNone)
	done(t, d.Write("a", "1"), d.Write("b", "2"), d.Write("c", "3"), d.Write("d", "4"))
	for _, name := range append(wrongNames(), "A", "aa", "a\x00", "e", "\x00") {
		tells(t, fmt.Sprintf("Remove of %.110q", name), d.Remove(name), api.ErrNone)
	}
	holds(t, "Remove of none", d, "a=1 b=2 c=3 d=4")
	ops(t, "Remove of none", d, 4)
	done(t, d.Remove("b"))
	holds(t, "Remove of one between", d, "a=1 c=3 d=4")
	tells(t, "Remove of one that was removed", d.Remove("b"), api.ErrNone)
	done(t, d.Remove("d"))
	holds(t, "Remove of the last one", d, "a=1 c=3")
	done(t, d.Remove("a"), d.Remove("c"))
	holds(t, "Remove of all", d, "")
	ops(t, "Remove of all", d, 8)
	done(t, d.Write("b", "anew"))
	holds(t, "Write of one that was removed", d, "b=anew")
}

func TestSync(t *testing.T) {
	d := disk.New()
	done(t, d.Sync())
	holds(t, "Sync of nothing", d, "")
	done(t, d.Sync(), d.Sync())
	ops(t, "Sync of nothing, three times", d, 3)
	d.Crash(0)
	holds(t, "Crash behind Sync of nothing", d, "")
	done(t, d.Write("a", "1"), d.Write("b", "2"), d.Remove("a"), d.Sync(), d.Sync())
	holds(t, "Sync", d, "b=2")
	ops(t, "Sync", d, 8)
	for _, keep := range []uint64{0, 1, 2, 3, 7, all} {
		d.Crash(keep)
		holds(t, "Crash behind Sync", d, "b=2")
	}
}

// What was done ahead of a Sync has no bit any more, the Sync has none either.
func TestSyncBeginsAnew(t *testing.T) {
	for keep, want := range map[uint64]string{0: "b=1", 1: "b=1 x=1", 2: "b=1 y=2", 3: "b=1 x=1 y=2", all - 3: "b=1"} {
		d := sure(t)
		done(t, d.Remove("a"), d.Write("b", "2"), d.Write("b", "1"), d.Sync(), d.Sync(), d.Write("x", "1"), d.Write("y", "2"))
		d.Crash(keep)
		holds(t, fmt.Sprintf("Crash behind two Syncs, kept %b", keep), d, want)
	}
}

func TestRead(t *testing.T) {
	d := disk.New()
	reads := func(file, want string, wantE api.Errno) {
		t.Helper()
		if got, e := d.Read(file); got != want || e != wantE {
			t.Errorf("P0.2, P13.1: Read of %.110q: %q, %d, not %q, %d", file, got, e, want, wantE)
		}
	}
	reads("a", "", api.ErrNone)
	done(t, d.Write("a", "one"), d.Write("empty", ""), d.Write("z", "two"))
	reads("a", "one", api.OK)
	reads("empty", "", api.OK)
	reads("z", "two", api.OK)
	for _, file := range append(wrongNames(), "A", "aa", "b", "a\x00", "empt", "empty ", "zz", "\xff") {
		reads(file, "", api.ErrNone)
	}
	done(t, d.Move("a", "z"))
	reads("a", "", api.ErrNone)
	reads("z", "one", api.OK)
	done(t, d.Remove("empty"))
	reads("empty", "", api.ErrNone)
	ops(t, "Read", d, 5)
}

func TestFiles(t *testing.T) {
	d := disk.New()
	if got := d.Files(); len(got) != 0 {
		t.Errorf("P13.1: Files of none: %q", got)
	}
	// By their bytes.
	rising := []string{"\x00", "\x00\x00", " ", "10", "9", "A", "Z", "a", "a\x00", "a b", "a/b", "aa", "b", "\x7f", "\xc3\xa9", "\xe2\x82\xac", "\xed\xa0\x80", "\xff", "\xff\x00"}
	for at, file := range slices.Backward(rising) {
		done(t, d.Write(file, ""))
		if got := d.Files(); !slices.Equal(got, rising[at:]) {
			t.Errorf("P13.1: Files: %q, not %q", got, rising[at:])
		}
	}
	done(t, d.Move("9", "Y"), d.Remove("a"))
	want := []string{"\x00", "\x00\x00", " ", "10", "A", "Y", "Z", "a\x00", "a b", "a/b", "aa", "b", "\x7f", "\xc3\xa9", "\xe2\x82\xac", "\xed\xa0\x80", "\xff", "\xff\x00"}
	if got := d.Files(); !slices.Equal(got, want) {
		t.Errorf("P13.1: Files behind Move and Remove: %q, not %q", got, want)
	}
}

func TestFilesAreTheCallersOwn(t *testing.T) {
	d := sure(t)
	one, two := d.Files(), d.Files()
	room := one[:cap(one)]
	for at := range room {
		room[at] = "spoilt"
	}
	if !slices.Equal(two, []string{"a", "b"}) {
		t.Errorf("P0.3: two lists of Files share memory: %q", two)
	}
	holds(t, "Files that were written into", d, "a=1 b=1")
	d.Crash(0)
	holds(t, "Files that were written into, behind a Crash", d, "a=1 b=1")
	kept := d.Files()
	done(t, d.Remove("a"), d.Move("b", "x"), d.Write("c", ""))
	if !slices.Equal(kept, []string{"a", "b"}) {
		t.Errorf("P0.3: what Files told goes on with the disk: %q", kept)
	}
}

func TestOps(t *testing.T) {
	d := disk.New()
	ops(t, "New", d, 0)
	for at, call := range []func() api.Errno{
		func() api.Errno { return d.Write("a", "1") },
		func() api.Errno { return d.Write("a", "1") },
		func() api.Errno { return d.Move("a", "b") },
		func() api.Errno { return d.Sync() },
		func() api.Errno { return d.Sync() },
		func() api.Errno { return d.Move("b", "b") },
		func() api.Errno { return d.Remove("b") },
	} {
		done(t, call())
		ops(t, fmt.Sprint("the call ", at), d, at+1)
		d.Write("", "")
		d.Move("none", "x")
		d.Move("b", "")
		d.Remove("none")
		d.Read("none")
		d.Read("b")
		d.Files()
		d.Down()
		d.Fuse(5)
		ops(t, "what is no operation", d, at+1)
	}
	d.Crash(all)
	ops(t, "Crash", d, 7)
	done(t, d.Write("a", "1"), d.Write("b", "1"))
	d.Crash(all)
	ops(t, "another Crash", d, 9)
	d.Fuse(0)
	tells(t, "Sync with a Fuse of 0", d.Sync(), api.ErrDown)
	ops(t, "one that was not done", d, 9)
	d.Crash(0)
	ops(t, "Crash of one that is Down", d, 9)
	done(t, d.Sync())
	ops(t, "Sync behind that", d, 10)
}

// Two disks have nothing in common, a zero one and a copy of one neither.
func TestDisksStandAlone(t *testing.T) {
	one, two := disk.New(), disk.New()
	done(t, one.Write("a", "1"), two.Write("b", "2"), two.Sync())
	one.Fuse(0)
	one.Sync()
	holds(t, "the other one", two, "b=2")
	one.Crash(all)
	holds(t, "the one", one, "a=1")
	if one.Ops() != 1 || two.Ops() != 2 {
		t.Errorf("P0.5: Ops of two disks: %d, %d", one.Ops(), two.Ops())
	}
	var zero disk.Disk
	holds(t, "a zero Disk", &zero, "")
	done(t, zero.Write("a", "1"), zero.Move("a", "b"), zero.Sync(), zero.Write("c", "2"))
	zero.Crash(0)
	holds(t, "a zero Disk, used", &zero, "b=1")
	for n := range 10 {
		d := filled(t, n)
		done(t, d.Sync())
		for at := range n {
			done(t, d.Write(numbered(at), "anew"))
		}
		twin := *d
		done(t, d.Write("z", "mine"), twin.Write("z", "its"))
		d.Crash(1 << n)
		twin.Crash(1 << n)
		if mine, e := d.Read("z"); mine != "mine" || e != api.OK {
			t.Errorf("P0.5: a Disk with a copy, behind %d Writes: %q, %d", n, mine, e)
		}
		if its, e := twin.Read("z"); its != "its" || e != api.OK {
			t.Errorf("P0.5: a copy of a Disk, behind %d Writes: %q, %d", n, its, e)
		}
	}
}

func TestNil(t *testing.T) {
	var d *disk.Disk
	for range 2 {
		for _, name := range []string{"", "a", strings.Repeat("n", 101)} {
			tells(t, "Write of nil", d.Write(name, "x"), api.ErrDown)
			tells(t, "Move of nil", d.Move(name, name), api.ErrDown)
			tells(t, "Remove of nil", d.Remove(name), api.ErrDown)
			if got, e := d.Read(name); got != "" || e != api.ErrDown {
				t.Errorf("P13.1: Read of nil: %q, %d", got, e)
			}
		}
		tells(t, "Sync of nil", d.Sync(), api.ErrDown)
		if got := d.Files(); len(got) != 0 {
			t.Errorf("P13.1: Files of nil: %q", got)
		}
		if !d.Down() {
			t.Error("P13.1: Down of nil: false")
		}
		ops(t, "all, of nil", d, 0)
		for _, n := range []int{-1, 0, 1, 5, math.MinInt, math.MaxInt} {
			d.Fuse(n)
		}
		for _, keep := range []uint64{0, 1, all} {
			d.Crash(keep)
		}
	}
}

func ExampleDisk() {
	d := disk.New()
	d.Write("list", "one")
	d.Sync()
	d.Write("next", "one, two")
	d.Move("next", "list")
	d.Crash(1) // the Write stays, the Move does not
	text, _ := d.Read("list")
	fmt.Println(d.Files(), text)
	d.Fuse(1)
	fmt.Println(d.Move("next", "list") == api.OK, d.Sync() == api.ErrDown, d.Down())
	d.Crash(0)
	fmt.Println(d.Files(), d.Ops())
	// Output:
	// [list next] one
	// true true true
	// [list next] 5
}

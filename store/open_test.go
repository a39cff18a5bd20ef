package store_test

import (
	"crypto/sha256"
	"fmt"
	"slices"
	"strings"
	"testing"

	"colporteur/api"
	"colporteur/delta"
	"colporteur/disk"
	"colporteur/oid"
	"colporteur/pack"
	"colporteur/store"
)

const fileName = "colporteur" // the program's own

// fails asks that Open tells e, and no store.
func fails(t *testing.T, what string, d *disk.Disk, want api.Errno) {
	t.Helper()
	if s, e := store.Open(d); s != nil || e != want {
		t.Errorf("P0.2, P14.1: Open of %s: a store: %v, %d, not %d", what, s != nil, e, want)
	}
}

// with is a disk of one file, sure.
func with(file, text string) *disk.Disk {
	d := disk.New()
	d.Write(file, text)
	d.Sync()
	return d
}

// onlyFile is the one file of a store's disk, and what stands there.
func onlyFile(t *testing.T, d *disk.Disk) (string, string) {
	t.Helper()
	files := d.Files()
	if len(files) != 1 {
		t.Fatalf("the files are %q", files)
	}
	text, _ := d.Read(files[0])
	return files[0], text
}

func TestOpenOfNone(t *testing.T) {
	fails(t, "nil", nil, api.ErrDown)
	for what, d := range map[string]*disk.Disk{"a new disk": disk.New(), "a zero disk": {}, "a disk that Crashed": crashed(disk.New())} {
		s := opened(t, d)
		tells(t, what, s, store.State{})
		if len(d.Files()) != 0 || d.Ops() != 0 {
			t.Errorf("P14.1: Open of %s: files %q, %d operations", what, d.Files(), d.Ops())
		}
		tells(t, what+", opened again", opened(t, d), store.State{})
		if e := promised(samples()...).install(s); e != api.OK {
			t.Errorf("P14.1: Install on %s: %d", what, e)
		}
		tells(t, what, s, paper{promised(samples()...)}.state())
	}
}

func TestOpenOfDown(t *testing.T) {
	d, _ := filled(t, plain(samples()...))
	d.Fuse(0)
	d.Sync()
	fails(t, "one that is Down", d, api.ErrDown)
	fails(t, "one that is Down, again", d, api.ErrDown)
	d.Crash(0)
	tells(t, "one that was Down", opened(t, d), paper{plain(samples()...)}.state())
	empty := disk.New()
	empty.Fuse(0)
	empty.Sync()
	fails(t, "an empty one that is Down", empty, api.ErrDown)
}

// others are names of files that are none of the program's own.
var others = []string{"colporteur.new", "colporteur.tmp", "colporteus", "Colporteur", "colporteur ", "colporteu", "store", "a", "z", "\x00", strings.Repeat("n", 100)}

// beside writes so many files beside those of the program, and makes them sure.
func beside(d *disk.Disk, n int) {
	_, whole := onlyOf(d)
	for at := range n {
		text := []string{"", "other", whole}[at%3]
		d.Write(others[at], text)
	}
	d.Sync()
}

// onlyOf is the first file of d, if there is one.
func onlyOf(d *disk.Disk) (string, string) {
	for _, file := range d.Files() {
		text, _ := d.Read(file)
		return file, text
	}
	return "", ""
}

func TestOpenRemovesWhatStandsBeside(t *testing.T) {
	for _, calls := range [][]call{nil, {call{}}, {{os: samples(), promised: true, shallow: ids(1), refs: numbered(2)}}} {
		for n := range len(others) + 1 {
			d, _ := filled(t, calls...)
			was := texts(d)
			beside(d, n)
			ops := d.Ops()
			s := opened(t, d)
			tells(t, fmt.Sprint("with others beside, ", n), s, paper(calls).state())
			if texts(d) != was || d.Ops() != ops+n {
				t.Errorf("P14.1: Open with %d others beside: files %q, %d operations", n, d.Files(), d.Ops()-ops)
			}
			if e := s.Install(blobs(0, 3), true, nil, nil); e != api.OK {
				t.Errorf("P14.1: Install where others stood beside: %d", e)
			}
		}
	}
	// A full disk has room again.
	d := disk.New()
	for at := range 100 {
		d.Write(fmt.Sprint("file ", at), "x")
	}
	s := opened(t, d)
	if e := s.Install(samples(), false, nil, nil); e != api.OK || len(d.Files()) != 1 {
		t.Errorf("P14.1: Install on a disk that was full: %d, files %q", e, d.Files())
	}
}

func TestOpenWithAFuse(t *testing.T) {
	for _, calls := range [][]call{nil, {{os: samples(), promised: true, shallow: ids(1), refs: numbered(2)}}} {
		for n := range 5 {
			for fuse := range 7 {
				what := fmt.Sprintf("a disk with %d others and a Fuse of %d", n, fuse)
				d, _ := filled(t, calls...)
				beside(d, n)
				d.Fuse(fuse)
				if fuse < n {
					fails(t, what, d, api.ErrDown)
					if !d.Down() {
						t.Errorf("P14.1: %s: not Down", what)
					}
					d.Crash(0)
				}
				tells(t, what, opened(t, d), paper(calls).state())
			}
		}
	}
}

// An Install that finds no room is one that finds an error of the disk.
func TestInstallWithoutRoom(t *testing.T) {
	for _, calls := range [][]call{nil, {plain(samples()...)}} {
		d, s := filled(t, calls...)
		for len(d.Files()) < 100 {
			d.Write(fmt.Sprint("file ", len(d.Files())), "x")
		}
		e := promised(blobOf("new")).install(s)
		if len(calls) > 0 {
			if e != api.OK {
				t.Errorf("P14.1: Install on a full disk: %d", e)
			}
			continue
		}
		if e != api.ErrDown || d.Down() {
			t.Errorf("P14.1: Install without room: %d", e)
		}
		isDown(t, "a store without room", s)
		tells(t, "a store without room, opened anew", opened(t, d), store.State{})
		isDown(t, "a store without room, once there is some", s)
	}
}

// states are calls that make files of all sorts.
func states() map[string][]call {
	return map[string][]call{
		"nothing": {{}}, "an object": {plain(blobOf("a"))}, "a promised object": {promised(blobOf("a"))}, "filtered": {promised(blobOf("a")), plain(blobOf("a"))},
		"shallow names": {{shallow: ids(1, 2)}}, "refs": {{refs: refsOf("m", "n")}}, "all": {plain(samples()[:4]...), {os: samples()[6:7], promised: true, shallow: ids(7), refs: numbered(2)}},
	}
}

func TestOpenOfSpoiltFiles(t *testing.T) {
	for what, calls := range states() {
		d, _ := filled(t, calls...)
		file, right := onlyFile(t, d)
		for at := range len(right) {
			fails(t, fmt.Sprint(what, ", cut off at ", at), with(file, right[:at]), api.ErrSum)
			fails(t, fmt.Sprint(what, ", from the byte ", at, " on"), with(file, right[at+1:]), api.ErrSum)
			fails(t, fmt.Sprint(what, ", without the byte ", at), with(file, right[:at]+right[at+1:]), api.ErrSum)
			fails(t, fmt.Sprint(what, ", with a byte at ", at), with(file, right[:at]+"\x00"+right[at:]), api.ErrSum)
			for bit := range 8 {
				b := []byte(right)
				b[at] ^= 1 << bit
				fails(t, fmt.Sprint(what, ", a bit turned at ", at), with(file, string(b)), api.ErrSum)
			}
		}
		for b := range 256 {
			fails(t, fmt.Sprint(what, ", with a byte behind it"), with(file, right+string([]byte{byte(b)})), api.ErrSum)
			fails(t, fmt.Sprint(what, ", with a byte ahead of it"), with(file, string([]byte{byte(b)})+right), api.ErrSum)
		}
		fails(t, what+", twice", with(file, right+right), api.ErrSum)
		tells(t, what+", as it was", opened(t, with(file, right)), paper(calls).state())
		// Away: there is nothing of its own any more.
		d.Remove(file)
		tells(t, what+", away", opened(t, d), store.State{})
		tells(t, what+", under another name", opened(t, with("other", right)), store.State{})
	}
}

// Open leaves what it can't read, and what stands beside, as it is.
func TestOpenOfSpoiltFilesChangesNothing(t *testing.T) {
	d, _ := filled(t, plain(samples()...))
	file, right := onlyFile(t, d)
	d.Write(file, right+"x")
	beside(d, 3)
	was, ops := texts(d), d.Ops()
	for range 3 {
		fails(t, "spoilt files", d, api.ErrSum)
	}
	if texts(d) != was || d.Ops() != ops {
		t.Errorf("P14.1: Open of spoilt files changes the disk: %q", d.Files())
	}
	d.Write(file, right)
	tells(t, "files that were spoilt", opened(t, d), paper{plain(samples()...)}.state())
}

// summed is s with its sum behind.
func summed(s string) string {
	h := sha256.Sum256([]byte(s))
	return s + string(h[:])
}

// lined are lines, and what ends them.
func lined(lines ...string) string {
	var s strings.Builder
	for _, text := range lines {
		fmt.Fprintf(&s, "%04x%s", len(text)+4, text)
	}
	return s.String() + "0000"
}

// sized is s behind its length, seven bits a byte.
func sized(s string) string {
	var head []byte
	n := len(s)
	for ; n >= 128; n >>= 7 {
		head = append(head, byte(n)|128)
	}
	return string(append(head, byte(n))) + s
}

// packed is a pack of objects behind its length.
func packed(os ...api.Object) string {
	s, ok := pack.Of(os...)
	if !ok {
		panic("no pack")
	}
	return sized(s)
}

// byName are objects by their rising names.
func byName(os ...api.Object) []api.Object {
	sorted := slices.Clone(os)
	slices.SortFunc(sorted, func(a, b api.Object) int { return strings.Compare(oid.Hex(name(a)), oid.Hex(name(b))) })
	return sorted
}

// hex are the digits of n's id.
func hex(n int) string { return oid.Hex(id(n)) }

// Files are made just so, be it known to those that change how: a disk of today
// is to be opened tomorrow.
func TestFileIsMadeSo(t *testing.T) {
	a, b := blobOf("a"), blobOf("b")
	many := byName(blobs(0, 401)...)
	for _, x := range []struct {
		calls []call
		want  string
	}{
		{[]call{{}}, lined()},
		{[]call{plain(a)}, lined() + packed(a)},
		{[]call{promised(a), plain(a)}, lined("filtered") + packed(a)},
		{[]call{{os: []api.Object{a}, promised: true, shallow: []api.Id{{2}, {1}}, refs: []api.Ref{{Name: "n", Id: id(1)}, {Name: "m", Id: id(2)}}}, {os: []api.Object{b}, shallow: []api.Id{{2}, {1}}, refs: []api.Ref{{Name: "n", Id: id(1)}, {Name: "m", Id: id(2)}}}},
			lined("filtered", "ref "+hex(2)+" m", "ref "+hex(1)+" n", "shallow 01"+strings.Repeat("0", 62), "shallow 02"+strings.Repeat("0", 62), "promised "+oid.Hex(name(a))) + packed(byName(a, b)...)},
		{[]call{plain(blobs(0, 200)...), plain(blobs(200, 200)...), plain(blobs(400, 1)...)}, lined() + packed(many[:200]...) + packed(many[200:400]...) + packed(many[400])},
	} {
		d, _ := filled(t, x.calls...)
		if file, text := onlyFile(t, d); file != fileName || text != summed(x.want) {
			t.Errorf("P14.1: the file %q is %q, not %q", file, text, summed(x.want))
		}
	}
}

// forged are texts whose sums are right, and that no Install makes.
func forged() map[string]string {
	a, b := blobOf("a"), blobOf("b")
	both := byName(a, b)
	falling := []api.Object{both[1], both[0]}
	ref, of := "ref "+hex(1)+" m", "promised "+oid.Hex(name(a))
	var refs []string
	for _, r := range numbered(17) {
		refs = append(refs, "ref "+oid.Hex(r.Id)+" "+r.Name)
	}
	big := byName(blobs(0, 200)...)
	found := map[string]string{
		"nothing": "", "no Flush": "0000"[:3], "two Flushes": "00000000", "a Delim": "0001" + lined(), "a Delim behind a line": lined(ref)[:4+len(ref)] + "00010000", "an open line": "0009ref", "no digits": "xxxx0000",
		"an unknown line": lined("other"), "an unknown line among others": lined("filtered", "x") + packed(a), "a space": lined(" "), "a line of a word": lined("ref"), "filtered of nothing": lined("filtered"), "filtered twice": lined("filtered", "filtered") + packed(a), "filtered and more": lined("filtered ") + packed(a),
		"Filtered": lined("Filtered") + packed(a), "a ref of no Name": lined("ref " + hex(1)), "a ref of an empty Name": lined("ref " + hex(1) + " "), "a ref of a wrong Name": lined("ref " + hex(1) + " M"), "a ref of two Names": lined(ref + " n"),
		"a ref without digits": lined("ref  m"), "a ref of few digits": lined("ref " + hex(1)[:63] + " m"), "a ref of great digits": lined("ref " + strings.ToUpper(hex(1)) + " m"), "a ref twice": lined(ref, ref), "a Name twice": lined(ref, "ref "+hex(2)+" m"),
		"refs that fall": lined("ref "+hex(1)+" n", ref), "17 refs": lined(refs...), "a ref behind a shallow name": lined("shallow "+hex(1), ref), "shallow names that fall": lined("shallow "+hex(2), "shallow "+hex(1)), "shallow names twice": lined("shallow "+hex(1), "shallow "+hex(1)),
		"a shallow name and more": lined("shallow " + hex(1) + " "), "a shallow name of few digits": lined("shallow " + hex(1)[:62]), "a shallow name without digits": lined("shallow"), "promised, and not held": lined("filtered", "promised "+hex(1)) + packed(a),
		"promised, not filtered": lined(of) + packed(a), "promised twice": lined("filtered", of, of) + packed(a), "promised ahead of filtered": lined(of, "filtered") + packed(a), "promised that fall": lined("filtered", "promised "+oid.Hex(name(both[1])), "promised "+oid.Hex(name(both[0]))) + packed(both...),
		"promised, and no object": lined("filtered", of), "promised, and another object": lined("filtered", of) + packed(b), "promised and more": lined("filtered", of+" x") + packed(a),
		"an empty pack": lined() + packed(), "an empty pack behind one": lined() + packed(a) + packed(), "objects that fall": lined() + packed(falling...), "an object twice": lined() + packed(a, a), "an object in two packs": lined() + packed(a) + packed(a), "two packs for one": lined() + packed(both[0]) + packed(both[1]),
		"packs of 199 and 1": lined() + packed(big[:199]...) + packed(big[199]), "a byte behind packs": lined() + packed(a) + "\x00", "bytes behind packs": lined() + packed(a) + strings.Repeat("\x00", 33), "bytes behind lines": lined() + "PACK", "a length of no pack": lined() + "\x00", "lengths of no packs": lined() + strings.Repeat("\x00", 40),
		"a length that is too great": lined() + "\x7f" + packed(a)[1:], "a length that is cut off": lined() + "\x80", "a length above all": lined() + strings.Repeat("\xff", 50), "a pack without its length": lined() + packed(a)[1:], "lines behind packs": packed(a) + lined(),
		"a sum as a pack": lined() + sized(summed("")), "a pack of a wrong kind": lined() + sized(summed("PACK\x01\x40")), "a pack of a wrong tree": lined() + sized(summed("PACK\x01\x21x")),
	}
	ahead := pack.Item{Kind: api.KBlob, Body: "a"}
	back, ok := pack.Put(ahead, pack.Item{Kind: 6, Back: 1, Body: delta.Make("a", "b")})
	on, isOn := pack.Put(ahead, pack.Item{Kind: 7, Base: name(a), Body: delta.Make("a", "b")})
	if !ok || !isOn {
		panic("no pack")
	}
	found["a delta by Back"], found["a delta by name"] = lined()+sized(back), lined()+sized(on)
	return found
}

func TestOpenOfForgedFiles(t *testing.T) {
	for what, text := range forged() {
		fails(t, what, with(fileName, summed(text)), api.ErrSum)
		fails(t, what+", without a sum", with(fileName, text), api.ErrSum)
	}
	for _, text := range []string{"\x00", "x", "store", "0000", "0001", "PACK", packed(blobOf("a")), strings.Repeat("0", 32), strings.Repeat("0000", 9), strings.Repeat("\x00", 100), strings.Repeat("\xff", 1000), strings.Repeat("0", 100_000), summed(summed(lined()))} {
		fails(t, fmt.Sprintf("%.20q", text), with(fileName, text), api.ErrSum)
	}
}

// isMade asks that Open tells ErrSum, or what some calls make just that file
// of; it tells how often there are such calls.
func isMade(t *testing.T, what, text string) int {
	t.Helper()
	s, e := store.Open(with(fileName, text))
	if e != api.OK {
		fails(t, what, with(fileName, text), api.ErrSum)
		return 0
	}
	x := s.State()
	var calls []call
	for _, o := range x.Objects {
		calls = append(calls, call{[]api.Object{o}, slices.Contains(x.Promised, name(o)), x.Shallow, x.Refs})
	}
	if x.Filtered && len(x.Promised) == 0 && len(x.Objects) > 0 {
		calls = append([]call{promised(x.Objects[0])}, calls...)
	}
	if len(calls) == 0 {
		calls = []call{{shallow: x.Shallow, refs: x.Refs}}
	}
	d, _ := filled(t, calls...)
	if _, made := onlyFile(t, d); made != text {
		t.Errorf("P14.1: Open of %s: OK of %q, but what it tells makes %q", what, text, made)
	}
	return 1
}

// Whatever Open takes is of the program's making, though sums be made right.
func TestOpenOfTurnedFilesWithTheirSums(t *testing.T) {
	taken := 0
	for what, calls := range states() {
		d, _ := filled(t, calls...)
		_, right := onlyFile(t, d)
		bare := right[:len(right)-32]
		for at := range len(bare) {
			for _, x := range []byte{1, 2, 3, 4, 8, 16, 32, 64, 80, 128, 255} {
				b := []byte(bare)
				b[at] ^= x
				text := summed(string(b))
				taken += isMade(t, what+", turned", text)
			}
			taken += isMade(t, what+", cut off", summed(bare[:at]))
		}
	}
	if taken < 100 {
		t.Errorf("Open takes too few of the turned files: %d", taken)
	}
}

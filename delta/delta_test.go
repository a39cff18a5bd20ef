package delta_test

import (
	"encoding/binary"
	"fmt"
	"math"
	"slices"
	"strings"
	"testing"

	"colporteur/api"
	"colporteur/delta"
)

const (
	most     = 1_000_000 // bytes of a base, and of what cuts make
	mostCopy = 100_000   // a copy's Len, its From, and a text that Make takes
)

// copies is a cut that copies, inserts one that inserts.
func copies(from, size int) api.Cut { return api.Cut{From: from, Len: size} }

func inserts(s string) api.Cut { return api.Cut{Insert: s} }

// cutsOf makes a list of several.
func cutsOf(cuts ...api.Cut) []api.Cut { return cuts }

// times is c, so many times.
func times(n int, c api.Cut) []api.Cut { return slices.Repeat(cutsOf(c), n) }

// text is one of so many bytes in which nothing recurs for long; each seed's is
// another one.
func text(seed uint32, size int) string {
	b := make([]byte, size)
	for i := range b {
		seed = seed*1664525 + 1013904223
		b[i] = byte(seed >> 24)
	}
	return string(b)
}

// number is n in sevens of bits, by the library's own way, which is the same.
func number(n int) string { return string(binary.AppendUvarint(nil, uint64(n))) }

// plain is what encodes cuts that may be, put together anew.
func plain(base int, cuts []api.Cut) string {
	behind := ""
	for part := range slices.Chunk(cuts, 100) {
		behind += plainCuts(part)
	}
	return number(base) + number(size(cuts)) + behind
}

func plainCuts(cuts []api.Cut) string {
	found := ""
	for _, c := range cuts {
		if c.Len > 0 {
			found += "\x80" + number(c.From) + number(c.Len)
		} else {
			found += string([]byte{byte(len(c.Insert))}) + c.Insert
		}
	}
	return found
}

// size is how many bytes cuts make.
func size(cuts []api.Cut) int {
	n := 0
	for _, c := range cuts {
		n += len(c.Insert) + c.Len
	}
	return n
}

// sample is a base's length and cuts of it.
type sample struct {
	name string
	base int
	cuts []api.Cut
}

// good are such that may be, beside all edges.
func good() []sample {
	found := []sample{
		{"no cut of nothing", 0, nil},
		{"an empty list", 7, []api.Cut{}},
		{"no cut of the longest base", most, nil},
		{"an insert of 1 byte", 0, cutsOf(inserts("x"))},
		{"an insert of a nought", 1, cutsOf(inserts("\x00"))},
		{"an insert of a copy's mark", 1, cutsOf(inserts("\x80"))},
		{"an insert of 99 bytes", 0, cutsOf(inserts(text(1, 99)))},
		{"an insert of 100 bytes", 0, cutsOf(inserts(text(2, 100)))},
		{"inserts one behind the other", 5, cutsOf(inserts("a"), inserts("b"), inserts(text(3, 100)), inserts("a"))},
		{"a copy of 1 byte", 1, cutsOf(copies(0, 1))},
		{"a copy of all", 5, cutsOf(copies(0, 5))},
		{"a copy of the last byte", 5, cutsOf(copies(4, 1))},
		{"a copy up to the end", 300, cutsOf(copies(128, 172))},
		{"a copy from the middle", 300, cutsOf(copies(127, 128))},
		{"the longest copy", mostCopy, cutsOf(copies(0, mostCopy))},
		{"a copy one shorter than the longest", mostCopy, cutsOf(copies(0, mostCopy-1))},
		{"the latest copy", mostCopy + 1, cutsOf(copies(mostCopy, 1))},
		{"a copy one ahead of the latest", mostCopy, cutsOf(copies(mostCopy-1, 1))},
		{"the latest and longest copy", 2 * mostCopy, cutsOf(copies(mostCopy, mostCopy))},
		{"the same of the longest base", most, cutsOf(copies(mostCopy, mostCopy), copies(0, 1))},
		{"copies that overlap, backwards", 20, cutsOf(copies(10, 10), copies(5, 10), copies(0, 10), copies(0, 10))},
		{"copies and inserts", 5, cutsOf(copies(1, 3), inserts("x"), copies(0, 5), inserts("yz"), inserts("\x80\x03\x02"), copies(4, 1))},
		{"greater numbers", 20000, cutsOf(inserts(text(4, 77)), copies(16383, 3617), inserts("\x00"), copies(16384, 128), copies(127, 16384))},
		{"a million of copies", mostCopy, times(10, copies(0, mostCopy))},
		{"a million with an insert", mostCopy, append(times(9, copies(0, mostCopy)), copies(1, mostCopy-1), inserts("x"))},
		{"a million of inserts", 0, times(10000, inserts(text(5, 100)))},
		{"a million all but one", mostCopy, append(times(9, copies(0, mostCopy)), copies(1, mostCopy-1))},
	}
	for size := 1; size <= 100; size += 9 {
		found = append(found, sample{fmt.Sprint("an insert of ", size), 0, cutsOf(inserts(text(6, size)))})
	}
	for _, n := range []int{2, 126, 127, 128, 129, 16382, 16383, 16384, 16385, 99998, 99999} {
		found = append(found, sample{fmt.Sprint("a base of ", n), n, cutsOf(copies(0, n))})
		found = append(found, sample{fmt.Sprint("a copy from ", n), n + 3, cutsOf(copies(n, 3), copies(n, 1), copies(n+1, 2))})
	}
	return found
}

// bad are such that may not be.
func bad() []sample {
	found := []sample{
		{"a zero Cut", 5, cutsOf(api.Cut{})},
		{"a zero Cut among others", 5, cutsOf(inserts("x"), api.Cut{}, copies(0, 5))},
		{"an insert of 101 bytes", 5, cutsOf(inserts(text(1, 101)))},
		{"an insert of 128 bytes", 5, cutsOf(inserts(text(1, 128)))},
		{"an insert of 256 bytes", 5, cutsOf(inserts(text(1, 256)))},
		{"an insert of 257 bytes", 5, cutsOf(inserts(text(1, 257)))},
		{"a long insert", 5, cutsOf(inserts(text(1, most)))},
		{"both an Insert and a Len", 5, cutsOf(api.Cut{Insert: "x", Len: 1})},
		{"an Insert, a From and a Len", 5, cutsOf(api.Cut{Insert: "x", From: 1, Len: 1})},
		{"a From and no Len", 5, cutsOf(api.Cut{From: 1})},
		{"an Insert and a From", 5, cutsOf(api.Cut{Insert: "x", From: 1})},
		{"an Insert and a From below 0", 5, cutsOf(api.Cut{Insert: "x", From: -1})},
		{"an Insert and a Len below 0", 5, cutsOf(api.Cut{Insert: "x", Len: -1})},
		{"a Len below 0", 5, cutsOf(api.Cut{From: 3, Len: -1})},
		{"a Len below 0 that others make up for", 5, cutsOf(copies(0, 5), inserts("xyz"), copies(3, -1))},
		{"a Len below 0 that just makes up for others", 5, cutsOf(copies(0, 5), copies(5, -5))},
		{"a From below 0", 5, cutsOf(copies(-1, 1))},
		{"a From below 0, and a Len", 5, cutsOf(copies(-2, 5))},
		{"a copy of 100,001 bytes", most, cutsOf(copies(0, mostCopy+1))},
		{"a copy from 100,001 on", most, cutsOf(copies(mostCopy+1, 1))},
		{"a copy of nothing", 0, cutsOf(copies(0, 1))},
		{"a copy from the end on", 5, cutsOf(copies(5, 1))},
		{"a copy from beyond the end", 5, cutsOf(copies(6, 1))},
		{"a copy of all and one byte", 5, cutsOf(copies(0, 6))},
		{"a copy up to one byte beyond the end", 5, cutsOf(copies(3, 3))},
		{"the longest copy of one byte too few", mostCopy - 1, cutsOf(copies(0, mostCopy))},
		{"the latest copy of one byte too few", mostCopy, cutsOf(copies(mostCopy, 1))},
		{"the latest and longest copy of one byte too few", 2*mostCopy - 1, cutsOf(copies(mostCopy, mostCopy))},
		{"a last one that may not be", 5, append(times(100, copies(0, 5)), copies(1, 5))},
		{"a million and one byte", mostCopy, append(times(10, copies(0, mostCopy)), inserts("x"))},
		{"a million and one byte of copies", mostCopy, append(times(10, copies(0, mostCopy)), copies(0, 1))},
		{"a million and one byte of inserts", 0, append(times(10000, inserts(text(5, 100))), inserts("x"))},
		{"two millions", mostCopy, times(20, copies(0, mostCopy))},
		{"far too much", mostCopy, times(50000, copies(0, mostCopy))},
	}
	for _, base := range []int{-1, -2, -128, -most, most + 1, most + 2, 1 << 20, 1 << 21, 1 << 32, math.MaxInt, math.MaxInt - 1, math.MinInt, math.MinInt + 1} {
		found = append(found,
			sample{fmt.Sprint("a base of ", base), base, nil},
			sample{fmt.Sprint("an insert, and a base of ", base), base, cutsOf(inserts("x"))},
			sample{fmt.Sprint("a copy, and a base of ", base), base, cutsOf(copies(0, 1))})
	}
	for _, n := range []int{1 << 20, 1 << 32, 1<<32 + 1, 1 << 62, math.MaxInt, math.MaxInt - 1, math.MinInt, math.MinInt + 1, -1 << 32, -1<<32 + 1, -mostCopy} {
		found = append(found,
			sample{fmt.Sprint("a From of ", n), most, cutsOf(copies(n, 1))},
			sample{fmt.Sprint("a Len of ", n), most, cutsOf(copies(0, n))},
			sample{fmt.Sprint("a Len of ", n, " behind others"), most, cutsOf(copies(0, 1), inserts("x"), copies(1, n))},
			sample{fmt.Sprint("a From and a Len of ", n), most, cutsOf(copies(n, n))},
			sample{fmt.Sprint("a From that makes up for a Len of ", n), most, cutsOf(copies(n, -n))},
			sample{fmt.Sprint("the same, and one byte, of ", n), most, cutsOf(copies(n, 1-n))},
			sample{fmt.Sprint("an Insert and a Len of ", n), most, cutsOf(api.Cut{Insert: "x", Len: n})},
			sample{fmt.Sprint("an Insert and a From of ", n), most, cutsOf(api.Cut{Insert: "x", From: n})})
	}
	return found
}

func TestPut(t *testing.T) {
	for _, x := range []struct {
		base int
		cuts []api.Cut
		want string
	}{
		{0, nil, "\x00\x00"}, {5, nil, "\x05\x00"}, {most, nil, "\xc0\x84\x3d\x00"},
		{0, cutsOf(inserts("x")), "\x00\x01\x01x"}, {2, cutsOf(inserts("xy"), inserts("z")), "\x02\x03\x02xy\x01z"}, {1, cutsOf(copies(0, 1)), "\x01\x01\x80\x00\x01"},
		{5, cutsOf(copies(1, 3), inserts("x")), "\x05\x04\x80\x01\x03\x01x"}, {300, cutsOf(copies(200, 100)), "\xac\x02\x64\x80\xc8\x01\x64"},
		{200000, cutsOf(copies(mostCopy, mostCopy)), "\xc0\x9a\x0c\xa0\x8d\x06\x80\xa0\x8d\x06\xa0\x8d\x06"},
	} {
		if got, ok := delta.Put(x.base, x.cuts...); !ok || got != x.want {
			t.Errorf("P10.1: Put of %d, %v: %x, %v, not %x", x.base, x.cuts, got, ok, x.want)
		}
	}
	for _, x := range good() {
		if got, ok := delta.Put(x.base, x.cuts...); !ok || got != plain(x.base, x.cuts) {
			t.Errorf("P10.1: Put of %s: %.40x, %v", x.name, got, ok)
		}
	}
}

func TestPutOfWrong(t *testing.T) {
	for _, x := range bad() {
		if got, ok := delta.Put(x.base, x.cuts...); got != "" || ok {
			t.Errorf("P0.2, P10.1: Put of %s: %.40x, %v", x.name, got, ok)
		}
	}
}

// Each bit of a cut, turned: it may be, or it may not.
func TestPutOfEachBit(t *testing.T) {
	const base = 150000
	for bit := range 64 {
		for _, c := range cutsOf(copies(1<<bit, 1), copies(1<<bit|1, 2), copies(0, 1<<bit), copies(1, 1<<bit), copies(1<<bit, 1<<bit)) {
			want := c.From >= 0 && c.From <= mostCopy && c.Len >= 1 && c.Len <= mostCopy && c.From <= base-c.Len
			if got, ok := delta.Put(base, c); ok != want || want != (got != "") {
				t.Errorf("P10.1: Put of %v: %x, %v", c, got, ok)
			}
		}
	}
}

// gets asks that Get tells just that.
func gets(t *testing.T, name, s string, base int, cuts []api.Cut) {
	t.Helper()
	gotBase, gotSize, got, e := delta.Get(s)
	if e != api.OK || gotBase != base || gotSize != size(cuts) || !slices.Equal(got, cuts) {
		t.Errorf("P10.1: Get of %s: %d, %d, %d cuts, %d", name, gotBase, gotSize, len(got), e)
	}
}

// fails asks that Get and Apply tell that error, and nothing else.
func fails(t *testing.T, s string, want api.Errno) {
	t.Helper()
	if base, size, cuts, e := delta.Get(s); e != want || base != 0 || size != 0 || cuts != nil {
		t.Errorf("P0.2, P10.1: Get of %.40x, %d bytes: %d, %d, %d cuts, %d, not %d", s, len(s), base, size, len(cuts), e, want)
	}
	if got, e := delta.Apply("abcde", s); e != want || got != "" {
		t.Errorf("P0.2, P10.1: Apply of %.40x, %d bytes: %.40x, %d, not %d", s, len(s), got, e, want)
	}
}

func TestGet(t *testing.T) {
	for _, x := range good() {
		gets(t, x.name, plain(x.base, x.cuts), x.base, x.cuts)
	}
	gets(t, "an insert of all bytes", "\x00\x03\x03\x00\x80\xff", 0, cutsOf(inserts("\x00\x80\xff")))
	gets(t, "a base of a million", "\xc0\x84\x3d\x00", most, nil)
}

// Cut off at any place, what Put tells ends too early.
func TestGetCutOff(t *testing.T) {
	for _, x := range good() {
		s := plain(x.base, x.cuts)
		// Of long ones, the places beside both ends.
		for end := range len(s) {
			if end < 400 || end > len(s)-120 {
				fails(t, s[:end], api.ErrMore)
			}
		}
	}
}

func TestGetOfMoreBehind(t *testing.T) {
	for _, x := range good() {
		s := plain(x.base, x.cuts)
		for _, behind := range []string{"\x00", "\x01", "\x01x", "\x64", "\x65", "\x80", "\x80\x00\x01", "\x80\x80", "\xff", s, strings.Repeat("\x00", 100)} {
			fails(t, s+behind, api.ErrForm)
		}
	}
	fails(t, "\x00\x00"+strings.Repeat("\x00", most), api.ErrForm)
}

// sized is what encodes cuts, but that another size is told.
func sized(base, told int, cuts ...api.Cut) string {
	behind := strings.TrimPrefix(plain(base, cuts), number(base)+number(size(cuts)))
	return number(base) + number(told) + behind
}

func TestGetOfAnotherSize(t *testing.T) {
	for _, x := range good() {
		all := size(x.cuts)
		for _, less := range []int{1, 2, 100, all} {
			if 1 <= less && less <= all {
				fails(t, sized(x.base, all-less, x.cuts...), api.ErrForm)
			}
		}
		for _, more := range []int{1, 2, 100, most - all} {
			if 1 <= more && all+more <= most {
				fails(t, sized(x.base, all+more, x.cuts...), api.ErrMore)
			}
		}
	}
	fails(t, sized(mostCopy, most+1, append(times(10, copies(0, mostCopy)), inserts("x"))...), api.ErrForm)
	fails(t, sized(most+1, 1, inserts("x")), api.ErrForm)
}

// wrong are begun with what can't be, each after what may be; each wrong thing
// is the last one that stands there.
var wrong = []string{
	"\x80\x00", "\xc1\x84\x3d", "\xff\xff\x7f", "\x05\x80\x00", "\x05\xc1\x84\x3d", // numbers ahead of the cuts
	"\x05\x01\x00", "\x05\x63\x00", "\x05\x7f\x65", "\x05\x7f\x7f", "\x05\x7f\x81", "\x05\x7f\xff", // marks that are none
	"\x05\x01\x02", "\x05\x05\x06", "\x05\x63\x64", "\x05\x03\x01x\x03", "\x05\x03\x80\x01\x02\x02", // inserts of more than the size
	"\x00\x01\x80", "\x00\x05\x01x\x80", // copies of nothing
	"\x05\x02\x80\x05", "\x05\x02\x80\x06", "\x05\x02\x80\x7f", "\x05\x02\x80\x80\x01", "\x05\x02\x80\xa1\x8d\x06", "\x01\x02\x80\x01", // copies from beyond the base
	"\x05\x02\x80\x80\x00", "\x05\x02\x80\xc1\x84\x3d", // a From that is no number
	"\xc0\x84\x3d\x02\x80\xa1\x8d\x06", "\xc0\x84\x3d\x02\x80\xbf\x84\x3d", // a From above 100,000
	"\x05\x02\x80\x03\x00", "\x05\x02\x80\x03\x80\x00", "\x05\x02\x80\x03\xc1\x84\x3d", // a Len of nothing, or that is no number
	"\x05\x05\x80\x04\x02", "\x05\x05\x80\x03\x03", "\x05\x7f\x80\x00\x06", "\x05\x7f\x80\x00\x7f", "\x05\x7f\x80\x01\x80\x01", // copies up to beyond the base
	"\x05\x02\x80\x00\x03", "\x05\x03\x01x\x80\x00\x03", "\x05\x03\x80\x00\x02\x80\x00\x02", // copies of more than the size
	"\xc0\x84\x3d\xc0\x84\x3d\x80\x00\xa1\x8d\x06", // a Len above 100,000
	"\x05\x00\x00", "\x05\x01\x01x\x01", "\x05\x01\x01x\x80", "\x00\x00\x80", // something behind the last cut
}

// What can't be is told as soon as it is read: be all missing that should follow,
// or be there anything.
func TestWrongAheadOfMissing(t *testing.T) {
	for _, s := range wrong {
		for _, behind := range []string{"", "\x00", "\x01", "\x01x", "x", "\x80", "\x80\x80\x00", "\xff\xff\xff\xff", strings.Repeat("x", 1000)} {
			fails(t, s+behind, api.ErrForm)
		}
	}
}

func TestMissing(t *testing.T) {
	for _, s := range []string{
		"", "\x05", "\x80", "\xff\xff", "\x05\x80", "\x05\xff\xff", "\x05\x01", "\x05\xc0\x84\x3d", // ahead of the cuts
		"\x05\x01\x01", "\x05\x02\x02x", "\x05\x64\x64", "\x05\x64\x64" + text(1, 99), "\x05\x02\x01x", "\x05\x02\x01x\x01", // of inserts
		"\x05\x02\x80", "\x05\x02\x80\x00", "\x05\x02\x80\x04", "\x05\x02\x80\x03\x01", "\x05\x02\x80\x04\x01\x80", "\x01\x01\x80\x00", // of copies
		"\xc0\x84\x3d\x01\x80\xa0", "\xc0\x84\x3d\x01\x80\xa0\x8d", "\xc0\x84\x3d\x01\x80\xa0\x8d\x06", "\xc0\x84\x3d\xc0\x84\x3d\x80\x00\xa0\x8d", // of long numbers
	} {
		fails(t, s, api.ErrMore)
	}
}

// A number is read when its last byte is: one that is cut off is missing,
// whatever could have come of it.
func TestCutOffInANumber(t *testing.T) {
	for _, s := range []string{"\x05\x02\x80\x80", "\x05\x02\x80\xff\xff", "\x05\x02\x80\x03\x80", "\x05\x02\x80\x03\x82", "\x05\x02\x80\x03\xff\xff"} {
		fails(t, s, api.ErrMore)
	}
	for _, s := range []string{"\x05\x02\x80\x80\x80\x80", "\x05\x02\x80\x03\xff\xff\xff"} {
		fails(t, s, api.ErrForm)
	}
}

// look reads a text another way: by places in it.
type look struct {
	s  string
	at int
	e  api.Errno // the first that was found; nothing is read behind it
}

// must notes that something can't be.
func (l *look) must(ok bool) {
	if l.e == api.OK && !ok {
		l.e = api.ErrForm
	}
}

// has notes that n bytes should be there.
func (l *look) has(n int) bool {
	if l.e == api.OK && len(l.s)-l.at < n {
		l.e = api.ErrMore
	}
	return l.e == api.OK
}

// number reads one from low to high.
func (l *look) number(low, high int) int {
	if l.e != api.OK {
		return 0
	}
	for size := 1; size <= 3; size++ {
		if !l.has(size) {
			return 0
		}
		if n, read := binary.Uvarint([]byte(l.s[l.at : l.at+size])); read > 0 {
			l.at += read
			l.must(len(number(int(n))) == read && low <= int(n) && int(n) <= high)
			return int(n)
		}
	}
	l.e = api.ErrForm
	return 0
}

// cut reads one that makes rest bytes at most.
func (l *look) cut(base, rest int) api.Cut {
	if !l.has(1) {
		return api.Cut{}
	}
	mark := int(l.s[l.at])
	l.at++
	if mark == 0x80 {
		l.must(base > 0)
		from := l.number(0, min(base-1, mostCopy))
		return copies(from, l.number(1, min(rest, mostCopy, base-from)))
	}
	l.must(0 < mark && mark <= 100 && mark <= rest)
	if !l.has(mark) {
		return api.Cut{}
	}
	l.at += mark
	return inserts(l.s[l.at-mark : l.at])
}

// all reads all.
func (l *look) all() (base, size int, cuts []api.Cut) {
	base = l.number(0, most)
	size = l.number(0, most)
	for rest := size; l.e == api.OK && rest > 0; {
		c := l.cut(base, rest)
		cuts = append(cuts, c)
		rest -= len(c.Insert) + c.Len
	}
	l.must(l.at == len(l.s))
	return base, size, cuts
}

// asLooked asks that Get tells what the other way does; and that Put tells it
// back, if it is none of the wrong ones.
func asLooked(t *testing.T, s string) {
	t.Helper()
	l := look{s: s}
	base, size, cuts := l.all()
	if l.e != api.OK {
		if gotBase, gotSize, got, e := delta.Get(s); e != l.e || gotBase != 0 || gotSize != 0 || got != nil {
			t.Fatalf("P10.1: Get of %x: %d, %d, %v, %d, not %d", s, gotBase, gotSize, got, e, l.e)
		}
		return
	}
	gotBase, gotSize, got, e := delta.Get(s)
	if e != api.OK || gotBase != base || gotSize != size || !slices.Equal(got, cuts) {
		t.Fatalf("P10.1: Get of %x: %d, %d, %v, %d", s, gotBase, gotSize, got, e)
	}
	if back, ok := delta.Put(base, got...); !ok || back != s {
		t.Fatalf("P10.1: Put of what Get tells of %x: %x, %v", s, back, ok)
	}
}

// Each byte of what Put tells is turned to each other one, and one is put in,
// and one taken out at each place.
func TestGetOfTurnedBytes(t *testing.T) {
	for _, x := range good() {
		s := plain(x.base, x.cuts)
		if len(s) > 400 {
			continue
		}
		for at := range s {
			asLooked(t, s[:at]+s[at+1:])
			for b := range 256 {
				one := string([]byte{byte(b)})
				asLooked(t, s[:at]+one+s[at+1:])
				asLooked(t, s[:at]+one+s[at:])
				// Nothing stands behind the turned one, either.
				asLooked(t, s[:at]+one)
			}
		}
	}
}

// Of all texts of a few signs just those are right that Put tells of cuts of a
// short base, and just their beginnings end too early.
func TestGetOfAllShortTexts(t *testing.T) {
	const longest = 12
	right := map[string]api.Errno{}
	for base := range 4 {
		for size := range 4 {
			all(right, number(base)+number(size), base, size)
		}
	}
	signs := []byte{0, 1, 2, 3, 4, 0x80}
	var check func(s string)
	check = func(s string) {
		want, ok := right[s]
		if !ok {
			want = api.ErrForm
		}
		if _, _, _, e := delta.Get(s); e != want {
			t.Errorf("P10.1: Get of %x: %d, not %d", s, e, want)
		}
		// Behind what is wrong, nothing makes it right.
		if want == api.ErrForm || len(s) == longest {
			return
		}
		for _, b := range signs {
			check(s + string([]byte{b}))
		}
	}
	for base := range 4 {
		for size := range 4 {
			check(number(base) + number(size))
		}
	}
}

// all notes all texts that go on from s with cuts that make rest bytes, of
// inserts of two signs; and what they begin with.
func all(found map[string]api.Errno, s string, base, rest int) {
	for end := range s {
		found[s[:end]] = api.ErrMore
	}
	if rest == 0 {
		found[s] = api.OK
		return
	}
	found[s] = api.ErrMore
	for n := 1; n <= rest; n++ {
		for _, insert := range words(n) {
			all(found, s+number(n)+insert, base, rest-n)
		}
	}
	for from := range base {
		for n := 1; n <= min(base-from, rest); n++ {
			begun := s + "\x80" + number(from)
			for _, cutOff := range []string{"\x80", "\x80\x80"} {
				found[s+"\x80"+cutOff] = api.ErrMore
				found[begun+cutOff] = api.ErrMore
			}
			all(found, begun+number(n), base, rest-n)
		}
	}
}

// words are all texts of so many of the signs.
func words(n int) []string {
	found := []string{""}
	for range n {
		var longer []string
		for _, s := range found {
			for _, b := range []byte{0, 1, 2, 3, 4, 0x80} {
				longer = append(longer, s+string([]byte{b}))
			}
		}
		found = longer
	}
	return found
}

// made is what cuts make, put together anew.
func made(base string, cuts []api.Cut) string {
	b := []byte{}
	for _, c := range cuts {
		if c.Len > 0 {
			b = append(b, base[c.From:c.From+c.Len]...)
		} else {
			b = append(b, c.Insert...)
		}
	}
	return string(b)
}

// The base has just the length that is told: no byte less, none more.
func TestApply(t *testing.T) {
	for _, x := range good() {
		s, base := plain(x.base, x.cuts), text(77, x.base)
		if got, e := delta.Apply(base, s); e != api.OK || got != made(base, x.cuts) {
			t.Errorf("P10.1: Apply of %s: %d bytes, %d", x.name, len(got), e)
		}
		others := []string{base + "x", base + base + "x"}
		if base != "" {
			others = append(others, "", base[1:], base[:len(base)-1])
		}
		for _, other := range others {
			if got, e := delta.Apply(other, s); e != api.ErrForm || got != "" {
				t.Errorf("P0.2, P10.1: Apply of %s to %d bytes: %d bytes, %d", x.name, len(other), len(got), e)
			}
		}
	}
	s, _ := delta.Put(5, copies(1, 3), inserts("x"), copies(0, 5), copies(4, 1))
	if got, e := delta.Apply("abcde", s); e != api.OK || got != "bcdxabcdee" {
		t.Errorf("P10.1: Apply: %q, %d", got, e)
	}
}

// Get's error is told of what is no delta, be the base as long as is told or not.
func TestApplyTellsGetsError(t *testing.T) {
	for s, want := range map[string]api.Errno{
		"": api.ErrMore, "\x03": api.ErrMore, "\x03\x02": api.ErrMore, "\x03\x02\x01x": api.ErrMore, "\x03\x02\x80\x01": api.ErrMore, "\x80": api.ErrMore,
		"\x80\x00": api.ErrForm, "\x03\x02\x00": api.ErrForm, "\x03\x02\x80\x02\x02": api.ErrForm, "\x03\x01\x01xx": api.ErrForm,
	} {
		for _, base := range []string{"", "ab", "abc", "abcd", strings.Repeat("abc", 1000)} {
			if got, e := delta.Apply(base, s); e != want || got != "" {
				t.Errorf("P0.2, P10.1: Apply of %x to %d bytes: %q, %d, not %d", s, len(base), got, e, want)
			}
		}
	}
}

// A base too long for any delta is none that a delta leans on.
func TestApplyToALongBase(t *testing.T) {
	base := strings.Repeat("x", most+1)
	for _, s := range []string{"\x00\x00", "\xc0\x84\x3d\x00", "\xc1\x84\x3d\x00", plain(most, cutsOf(copies(0, 1)))} {
		if got, e := delta.Apply(base, s); e != api.ErrForm || got != "" {
			t.Errorf("P10.1: Apply of %x to a long base: %q, %d", s, got, e)
		}
	}
}

// texts are such that have much, some, or nothing in common.
func texts() []string {
	one, two, few := text(1, 1000), text(2, 1000), text(3, 6)
	found := []string{
		"", "a", "b", "ab", "ba", few, "abcdefg", "abcdefgh", "bcdefghi", "abcdefghi", "hgfedcba", "\x00", strings.Repeat("\x00", 8), strings.Repeat("\x80", 200),
		one, two, one + two, two + one, one[500:] + one[:500], one[:500], one[300:700], one[:499] + "x" + one[500:], one[:500] + "x" + one[500:], one[:400] + one[600:],
		"x" + one, one + "x", one + one, one + one + one, few + one + few, one[:7] + two[:7] + one[7:14] + two[7:14], one[:8] + two[:8] + one[8:16] + two[8:16],
		strings.Repeat("a", 7), strings.Repeat("a", 8), strings.Repeat("a", 99), strings.Repeat("a", 100), strings.Repeat("a", 101), strings.Repeat("a", 200), strings.Repeat("a", 5000), strings.Repeat("b", 5000),
		strings.Repeat("a", 5000) + strings.Repeat("b", 5000), strings.Repeat("b", 5000) + strings.Repeat("a", 5000), strings.Repeat("a", 2000) + "b" + strings.Repeat("a", 3000),
		strings.Repeat("ab", 3000), strings.Repeat("abc", 2000), strings.Repeat("abcdefgh", 500), strings.Repeat("hgfedcba", 500), strings.Repeat("abcdefg", 500),
	}
	for i := range 8 {
		found = append(found, mixed(one+two, i, 7+i%3))
	}
	return found
}

// longTexts are such of up to 100,000 bytes, and a few short ones.
func longTexts() []string {
	long := text(4, mostCopy)
	return []string{
		"", "ab", long[300:700], long, long[1:], long[:mostCopy-1], long[mostCopy/2:] + long[:mostCopy/2], text(5, mostCopy), strings.Repeat("a", mostCopy), strings.Repeat("b", mostCopy),
		strings.Repeat("ab", mostCopy/2), strings.Repeat("a", mostCopy-1) + "b", mixed(long, 1, 350), mixed(long, 2, 8), mixed(long, 3, 350),
	}
}

// mixed is parts of s, so long at most, from here and there, with bytes between
// that are new: parts are few bytes long, too.
func mixed(s string, seed, size int) string {
	var b strings.Builder
	for i, place := range []byte(text(uint32(seed), 250)) {
		from := (int(place)*7919 + i*104729) % (len(s) - size)
		b.WriteString(s[from : from+size-int(place)%3])
		if int(place)%4 == 0 {
			b.WriteString(text(uint32(seed+i), int(place)/2))
		}
	}
	return b.String()
}

// makes asks that Make tells a delta as it is promised.
func makes(t *testing.T, base, want string) {
	t.Helper()
	s := delta.Make(base, want)
	if got, e := delta.Apply(base, s); e != api.OK || got != want {
		t.Errorf("P10.1: Make of %d and %d bytes (%.20q, %.20q): Apply tells %d bytes, %d", len(base), len(want), base, want, len(got), e)
	}
	if len(s) > len(want)+20+len(want)/100 {
		t.Errorf("P10.1: Make of %d and %d bytes (%.20q, %.20q): %d bytes", len(base), len(want), base, want, len(s))
	}
}

func TestMake(t *testing.T) {
	for _, all := range [][]string{texts(), longTexts()} {
		for _, base := range all {
			for _, want := range all {
				makes(t, base, want)
			}
		}
	}
}

// The same is made of the same, whatever was made between.
func TestMakeAgain(t *testing.T) {
	all := texts()
	for i, base := range all {
		want := all[(i*7+3)%len(all)]
		first := delta.Make(base, want)
		for range 5 {
			delta.Make(want, base)
			if again := delta.Make(base, want); again != first {
				t.Errorf("P0.5: Make of %.20q, %.20q, again: %x, not %x", base, want, again, first)
			}
		}
	}
}

// Texts that have in common what is just long enough to be copied, and what is
// not, as far from each other as an insert is long, and farther: a delta stays
// short enough, whatever of it is copied.
func TestMakeOfShortParts(t *testing.T) {
	base := text(9, 20000)
	for size := 1; size <= 20; size++ {
		for _, apart := range []int{0, 1, 2, 50, 98, 99, 100, 101, 102, 199, 200, 201} {
			var b strings.Builder
			for i := 0; b.Len() < 9000; i++ {
				from := (i*7919 + 16384) % (len(base) - size)
				b.WriteString(base[from : from+size])
				b.WriteString(text(uint32(i), apart))
			}
			makes(t, base, b.String())
		}
	}
}

func TestMakeOfALongText(t *testing.T) {
	long := text(4, mostCopy+1)
	for _, base := range []string{"", "abc", long, long[:mostCopy], strings.Repeat("a", 500000)} {
		for _, want := range []string{long, strings.Repeat("a", mostCopy+1), strings.Repeat("a", 3*most)} {
			if s := delta.Make(base, want); s != "" {
				t.Errorf("P10.1: Make of %d and %d bytes: %d bytes", len(base), len(want), len(s))
			}
		}
		makes(t, base, long[1:])
		makes(t, base, strings.Repeat("a", mostCopy))
	}
}

// Parts of a base that stand too late to be copied, or just early enough, up to
// the longest base that there may be; of a longer one there is no delta.
func TestMakeOfALongBase(t *testing.T) {
	base := text(8, most)
	for _, from := range []int{0, mostCopy - 9, mostCopy - 8, mostCopy - 1, mostCopy, mostCopy + 1, mostCopy + 8, 2*mostCopy - 9, 2 * mostCopy, most - 300} {
		for _, size := range []int{1, 9, 300, mostCopy} {
			want := base[from:min(from+size, most)]
			makes(t, base, want)
			makes(t, base[:from+1], want)
		}
	}
	for _, want := range []string{"", "x", base[:300]} {
		if s := delta.Make(base+"x", want); s != "" {
			t.Errorf("P10.1: Make of a base of a million and one: %d bytes", len(s))
		}
	}
}

// What stands in the base is copied: the chapter leaves it to the program, but
// a delta that copies nothing would be of no use.
func TestMakeCopies(t *testing.T) {
	one, long := text(1, 1000), text(4, 2*mostCopy)
	for _, x := range []struct {
		name, base, want string
		most             int
	}{
		{"equal texts", one, one, 8},
		{"a part", one, one[300:700], 9},
		{"parts turned about", one, one[500:] + one[:500], 14},
		{"one byte turned", one, one[:499] + "x" + one[500:], 16},
		{"the least that is copied", "abcdefgh", "abcdefgh", 5},
		{"long equal texts", long[:mostCopy], long[:mostCopy], 11},
		{"what ends latest", long, long[mostCopy:], 13},
		{"a long run of one byte", strings.Repeat("a", 5000), strings.Repeat("a", 4999), 8},
	} {
		if s := delta.Make(x.base, x.want); len(s) > x.most {
			t.Errorf("Make of %s: %d bytes", x.name, len(s))
		}
	}
}

// spare is a list with room behind it that is written full.
func spare(cuts []api.Cut) (list, room []api.Cut) {
	room = append(slices.Clone(cuts), times(5, api.Cut{Insert: "spare", From: 3, Len: 4})...)
	return room[:len(cuts)], room
}

func TestPutLeavesItsList(t *testing.T) {
	for _, x := range append(good(), bad()...) {
		list, room := spare(x.cuts)
		before := slices.Clone(room)
		first, _ := delta.Put(x.base, list...)
		if !slices.Equal(room, before) {
			t.Errorf("P0.3: Put of %s changes its list", x.name)
		}
		// Nor is it kept: what it was is told, whatever is written into it.
		clear(room)
		if second, _ := delta.Put(x.base, x.cuts...); second != first {
			t.Errorf("P0.3: Put of %s, again: another one", x.name)
		}
	}
}

// A list that Get tells is the caller's own, its spare room too.
func TestGetTellsNewLists(t *testing.T) {
	for _, x := range good() {
		s := plain(x.base, x.cuts)
		_, _, one, _ := delta.Get(s)
		_, _, two, _ := delta.Get(s)
		for i := range one[:cap(one)] {
			one[:cap(one)][i] = api.Cut{Insert: "x", From: -1, Len: -1}
		}
		if !slices.Equal(two, x.cuts) {
			t.Errorf("P0.3: Get of %s: its lists share memory", x.name)
		}
		gets(t, x.name, s, x.base, x.cuts)
	}
}

// A call keeps nothing of an earlier one, be that one of what is wrong.
func TestCallsStandAlone(t *testing.T) {
	s := plain(5, cutsOf(copies(1, 3), inserts("x")))
	for range 3 {
		for _, x := range wrong {
			delta.Get(x)
			delta.Apply("abcde", x)
		}
		delta.Put(5, inserts("x"), api.Cut{})
		delta.Make("abcdefghij", "bcdefghijk")
		if got, ok := delta.Put(5, copies(1, 3), inserts("x")); got != s || !ok {
			t.Errorf("P0.5: Put: %x, %v", got, ok)
		}
		gets(t, "the same", s, 5, cutsOf(copies(1, 3), inserts("x")))
		if got, e := delta.Apply("abcde", s); got != "bcdx" || e != api.OK {
			t.Errorf("P0.5: Apply: %q, %d", got, e)
		}
	}
}

// A long text of anything ends in an answer.
func TestLongWrongTexts(t *testing.T) {
	for b := range 256 {
		many := strings.Repeat(string([]byte{byte(b)}), 1<<16)
		asLooked(t, many)
		asLooked(t, "\x05\x7f"+many)
		asLooked(t, "\xc0\x84\x3d\xc0\x84\x3d"+many)
	}
	for seed := range 200 {
		asLooked(t, text(uint32(seed), 300))
		asLooked(t, "\xc0\x84\x3d\xc0\x84\x3d\x80\x00\x01"+text(uint32(seed), 300))
	}
}

func ExamplePut() {
	s, ok := delta.Put(5, api.Cut{From: 1, Len: 3}, api.Cut{Insert: "x"})
	fmt.Printf("%x %v\n", s, ok)
	_, ok = delta.Put(5, api.Cut{From: 3, Len: 3})
	fmt.Println(ok)
	// Output:
	// 05048001030178 true
	// false
}

func ExampleApply() {
	s, _ := delta.Put(5, api.Cut{From: 1, Len: 3}, api.Cut{Insert: "x"})
	text, e := delta.Apply("abcde", s)
	fmt.Println(text, e == api.OK)
	_, e = delta.Apply("abcdef", s)
	fmt.Println(e == api.ErrForm)
	// Output:
	// bcdx true
	// true
}

func ExampleMake() {
	base, text := "the quick brown fox", "a brown fox, the quick one"
	s := delta.Make(base, text)
	made, _ := delta.Apply(base, s)
	fmt.Println(made == text, len(s) < len(text))
	// Output: true true
}

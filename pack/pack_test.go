package pack_test

import (
	"crypto/sha256"
	"fmt"
	"math"
	"math/bits"
	"slices"
	"strings"
	"testing"

	"colporteur/api"
	"colporteur/object"
	"colporteur/pack"
)

const (
	mostItems = 200
	mostBody  = 100_000
)

// noKinds are none: they lie below, between and above those that are, some of
// them with the same low bits.
var noKinds = []int{
	0, -1, -2, -6, -7, 4, 5, 8, 9, 14, 15, 16, 17, 22, 23, 128, 129, 134, 135, 255, 257, 262, 263, 1<<16 + 6, 1<<32 + 1, 1<<32 + 6, 1<<32 + 7,
	-1<<32 + 6, -1<<60 + 1, math.MaxInt32, math.MinInt32, math.MaxInt, math.MinInt, math.MinInt + 1, math.MinInt + 6, math.MinInt + 7,
}

// id is a name of an object, of bytes that hang on n.
func id(n int) api.Id {
	var found api.Id
	for i := range found {
		found[i] = byte(n + i*37)
	}
	return found
}

// text is so many bytes that hang on seed.
func text(seed uint32, n int) string {
	b := make([]byte, n)
	for i := range b {
		seed = seed*1664525 + 1013904223
		b[i] = byte(seed >> 24)
	}
	return string(b)
}

// number is n, seven bits a byte, put together anew.
func number(n int) string {
	width := max(1, (bits.Len(uint(n))+6)/7)
	b := make([]byte, width)
	for i := range b {
		b[i] = byte(n>>(7*i))%128 + 128
	}
	b[width-1] -= 128
	return string(b)
}

// head is an item's kind and size, put together anew.
func head(kind, size int) string {
	first := byte(kind*16 + size%16)
	if size < 16 {
		return string([]byte{first})
	}
	return string([]byte{first + 128}) + number(size/16)
}

// summed is s with its sum behind.
func summed(s string) string {
	h := sha256.Sum256([]byte(s))
	return s + string(h[:])
}

// bare is s without its sum.
func bare(s string) string { return s[:len(s)-32] }

// plainItem is what encodes i, put together anew.
func plainItem(i pack.Item) string {
	s := head(i.Kind, len(i.Body))
	if i.Kind == 6 {
		s += number(i.Back)
	}
	if i.Kind == 7 {
		s += string(i.Base[:])
	}
	return s + i.Body
}

// plain is what encodes items, put together anew.
func plain(is ...pack.Item) string {
	var s strings.Builder
	s.WriteString("PACK" + number(len(is)))
	for _, i := range is {
		s.WriteString(plainItem(i))
	}
	return summed(s.String())
}

func whole(kind int, body string) pack.Item { return pack.Item{Kind: kind, Body: body} }

func byBack(back int, body string) pack.Item { return pack.Item{Kind: 6, Back: back, Body: body} }

func byName(base api.Id, body string) pack.Item { return pack.Item{Kind: 7, Base: base, Body: body} }

func times(n int, i pack.Item) []pack.Item { return slices.Repeat([]pack.Item{i}, n) }

// listed is a list of items with a name of its own.
type listed struct {
	name string
	is   []pack.Item
}

// list is one.
func list(name string, is ...pack.Item) listed { return listed{name, is} }

// oneOfEach are items of all kinds.
func oneOfEach() []pack.Item {
	return []pack.Item{whole(1, "hello\n"), whole(2, "tree"), whole(3, ""), byBack(1, "delta"), byBack(4, ""), byName(id(3), "other"), byName(api.Id{}, ""), byName(api.Id{31: 255}, "\x00")}
}

// good are lists that may be a pack's.
func good() []listed {
	found := []listed{
		list("none"), list("a blob", whole(1, "hi")), list("a tree", whole(2, "hi")), list("a commit", whole(3, "hi")), list("by name", byName(id(1), "hi")), list("by the name of noughts", byName(api.Id{}, "")),
		list("by Back", whole(1, "hi"), byBack(1, "d")), list("by Back of a delta by name", byName(id(1), "x"), byBack(1, "y"), byBack(2, "z")), list("one of each", oneOfEach()...),
		list("200", times(mostItems, whole(1, ""))...), list("200 by name", times(mostItems, byName(id(9), "z"))...), list("199", times(mostItems-1, whole(3, "x"))...),
		list("127", times(127, whole(2, "x"))...), list("128", times(128, whole(2, "x"))...),
	}
	first, chain := times(mostItems, whole(1, "a")), times(mostItems, whole(1, "a"))
	for at := 1; at < mostItems; at++ {
		first[at], chain[at] = byBack(at, "f"), byBack(1, "c")
	}
	found = append(found, list("just to the first item", first...), list("just to the one ahead", chain...))
	for _, size := range []int{1, 2, 14, 15, 16, 17, 127, 128, 2047, 2048, 2049, 65536, mostBody - 1, mostBody} {
		for _, i := range []pack.Item{whole(1, ""), whole(2, ""), whole(3, ""), byBack(1, ""), byName(id(4), "")} {
			i.Body = text(uint32(size), size)
			found = append(found, list(fmt.Sprintf("kind %d, %d bytes", i.Kind, size), whole(1, "x"), i, whole(1, "y")))
		}
	}
	return append(found, list("a whole pack", whole(1, plain(oneOfEach()...))), list("every byte", whole(1, everyByte()), byBack(1, everyByte()), byName(id(0), everyByte())))
}

func everyByte() string {
	b := make([]byte, 256)
	for i := range b {
		b[i] = byte(i)
	}
	return string(b)
}

// noBacks are such as an item never has, whatever stands ahead of it.
var noBacks = []int{
	0, -1, -2, -3, -5, -127, -128, -129, -256, -1000, -1 << 31, -1<<32 + 1, -1<<32 + 2, math.MinInt, math.MinInt + 1, math.MinInt + 2,
	mostItems, mostItems + 1, 255, 256, 257, 258, 1000, 1000000, 1000001, 1<<31 - 1, 1 << 31, 1<<32 + 1, 1<<32 + 2, math.MaxInt - 1, math.MaxInt,
}

// badItems are none, whatever stands ahead of them.
func badItems() []pack.Item {
	found := []pack.Item{{}}
	for _, kind := range noKinds {
		found = append(found, whole(kind, ""), whole(kind, "x"), pack.Item{Kind: kind, Back: 1, Body: "x"}, pack.Item{Kind: kind, Base: id(1), Body: "x"})
	}
	for _, back := range noBacks {
		found = append(found, byBack(back, ""), byBack(back, "x"))
		if back == 0 {
			continue
		}
		for _, kind := range []int{1, 2, 3, 7} {
			found = append(found, pack.Item{Kind: kind, Back: back}, pack.Item{Kind: kind, Back: back, Base: id(2), Body: "x"})
		}
	}
	for at := range 32 {
		var base api.Id
		base[at] = 1
		for _, kind := range []int{1, 2, 3} {
			found = append(found, pack.Item{Kind: kind, Base: base}, pack.Item{Kind: kind, Base: base, Body: "x"})
		}
		found = append(found, pack.Item{Kind: 6, Back: 1, Base: base}, pack.Item{Kind: 6, Back: 1, Base: base, Body: "x"})
	}
	for _, kind := range []int{1, 2, 3, 7} {
		found = append(found, pack.Item{Kind: kind, Back: 1}, pack.Item{Kind: kind, Back: 1, Body: "x"})
	}
	for _, size := range []int{mostBody + 1, 131072, 1000000, 1000001, 1 << 21} {
		body := text(uint32(size), size)
		found = append(found, whole(1, body), whole(2, body), whole(3, body), byBack(1, body), byName(id(3), body))
	}
	return found
}

// bad are lists that may be no pack's.
func bad() []listed {
	found := []listed{
		list("201", times(mostItems+1, whole(1, ""))...), list("201 that are none", make([]pack.Item, mostItems+1)...), list("256", times(256, whole(1, ""))...), list("100,000", times(100_000, whole(1, ""))...),
		list("201 by name", times(mostItems+1, byName(id(9), "z"))...), list("200 and one that is none", append(times(mostItems-1, whole(1, "")), pack.Item{})...),
		list("by Back, as the first", byBack(1, "d")), list("by Back 2, as the first", byBack(2, "d")), list("by Back ahead of what it tells", byBack(1, "d"), whole(1, "hi")),
	}
	for n, i := range badItems() {
		found = append(found, list(fmt.Sprintf("wrong item %d of 1", n), i), list(fmt.Sprintf("wrong item %d, the first of 3", n), i, whole(1, "a"), whole(1, "b")),
			list(fmt.Sprintf("wrong item %d, the second of 3", n), whole(1, "a"), i, whole(1, "b")), list(fmt.Sprintf("wrong item %d, the last of 4", n), whole(1, "a"), whole(2, "b"), byBack(1, "c"), i))
	}
	for ahead := range mostItems {
		for _, back := range []int{ahead + 1, ahead + 2, ahead + 128, ahead + 256} {
			found = append(found, list(fmt.Sprintf("Back %d with %d ahead", back, ahead), append(times(ahead, whole(1, "")), byBack(back, "x"))...))
		}
	}
	return found
}

// gets asks that Get tells items of s.
func gets(t *testing.T, name, s string, want []pack.Item) {
	t.Helper()
	if got, e := pack.Get(s); e != api.OK || !slices.Equal(got, want) {
		t.Errorf("P11.1: Get of %s: %d items, %d: %.300v", name, len(got), e, got)
	}
}

// fails asks that Get tells that error, and nothing else.
func fails(t *testing.T, name, s string, want api.Errno) {
	t.Helper()
	if got, e := pack.Get(s); e != want || got != nil {
		t.Errorf("P0.2, P11.1: Get of %s: %d items, %d, not %d", name, len(got), e, want)
	}
}

func TestPut(t *testing.T) {
	for _, x := range good() {
		if got, ok := pack.Put(x.is...); !ok || got != plain(x.is...) {
			t.Errorf("P11.1: Put of %s: %d bytes, %v: %.60x", x.name, len(got), ok, got)
		}
	}
	base := id(7)
	got, ok := pack.Put(whole(1, "hi"), byBack(1, "d"), byName(base, ""), whole(2, strings.Repeat("t", 16)), whole(3, ""), byBack(5, ""))
	if want := summed("PACK\x06\x12hi\x61\x01d\x70" + string(base[:]) + "\xa0\x01" + strings.Repeat("t", 16) + "\x30\x60\x05"); !ok || got != want {
		t.Errorf("P11.1: Put: %x, %v, not %x", got, ok, want)
	}
}

func TestPutOfNone(t *testing.T) {
	for name, is := range map[string][]pack.Item{"nil": nil, "an empty list": {}, "no argument": times(3, pack.Item{})[:0]} {
		if got, ok := pack.Put(is...); !ok || got != summed("PACK\x00") {
			t.Errorf("P0.4, P11.1: Put of %s: %x, %v", name, got, ok)
		}
	}
}

func TestPutOfWrong(t *testing.T) {
	for _, x := range bad() {
		if got, ok := pack.Put(x.is...); ok || got != "" {
			t.Errorf("P0.2, P11.1: Put of %s: %d bytes, %v", x.name, len(got), ok)
		}
	}
}

// An item of Kind 6 has just the Backs that lead to one ahead of it.
func TestPutOfEveryBack(t *testing.T) {
	for _, ahead := range []int{0, 1, 2, 3, 126, 127, 128, 199} {
		for back := -300; back <= 300; back++ {
			is := append(times(ahead, whole(1, "")), byBack(back, "x"))
			want, ok := "", 1 <= back && back <= ahead
			if ok {
				want = plain(is...)
			}
			if got, gotOk := pack.Put(is...); gotOk != ok || got != want {
				t.Errorf("P11.1: Put of Back %d with %d ahead: %d bytes, %v", back, ahead, len(got), gotOk)
			}
		}
	}
}

func TestGet(t *testing.T) {
	for _, x := range good() {
		gets(t, x.name, plain(x.is...), x.is)
	}
	if got, e := pack.Get(summed("PACK\x00")); e != api.OK || len(got) != 0 {
		t.Errorf("P11.1: Get of no item: %v, %d", got, e)
	}
}

// Items that Put refuses are no more told by Get, where they can be written.
func TestGetOfWrongItems(t *testing.T) {
	for ahead := range mostItems {
		before := times(ahead, whole(1, ""))
		for _, back := range []int{0, ahead + 1, ahead + 2, ahead + 128, mostItems, 255, 256, 1000000} {
			if 1 <= back && back <= ahead {
				continue
			}
			name := fmt.Sprintf("Back %d with %d ahead", back, ahead)
			fails(t, name, plain(append(before, byBack(back, "x"))...), api.ErrForm)
			fails(t, name+", cut off", summed(bare(plain(append(before, byBack(back, ""))...))), api.ErrForm)
		}
	}
	for kind := range 8 {
		for _, size := range []int{mostBody + 1, mostBody + 2, 131071, 131072, 1000000} {
			i := pack.Item{Kind: kind, Body: text(1, size)}
			if kind == 6 {
				i.Back = 1
			}
			name := fmt.Sprintf("kind %d, %d bytes", kind, size)
			fails(t, name, plain(whole(1, ""), i), api.ErrForm)
			fails(t, name+", cut off", summed("PACK\x02\x10"+head(kind, size)), api.ErrForm)
			fails(t, name+", cut off behind its base", summed("PACK\x02\x10"+head(kind, size)+"\x01"), api.ErrForm)
		}
	}
	for _, kind := range []int{0, 4, 5} {
		for _, body := range []string{"", "x", strings.Repeat("x", 40), strings.Repeat("x", mostBody)} {
			fails(t, fmt.Sprintf("kind %d", kind), plain(whole(kind, body)), api.ErrForm)
			fails(t, fmt.Sprintf("kind %d, cut off", kind), summed("PACK\x01"+head(kind, len(body))), api.ErrForm)
		}
	}
}

// Whatever stands in fewer than 37 bytes, with a right sum or a wrong one.
func TestGetOfFewBytes(t *testing.T) {
	for n := range 37 {
		for _, s := range []string{text(uint32(n), n), strings.Repeat("\x00", n), (summed("PACK\x00"))[:n], (plain(oneOfEach()...))[:n]} {
			fails(t, fmt.Sprintf("%d bytes", n), s, api.ErrMore)
		}
		if n >= 32 {
			fails(t, fmt.Sprintf("%d bytes, summed", n), summed(text(uint32(n), n-32)), api.ErrMore)
			fails(t, fmt.Sprintf("%d bytes of a pack, summed", n), summed(("PACK")[:n-32]), api.ErrMore)
		}
	}
	for b := range 256 {
		s := "PACK" + string([]byte{byte(b)})
		fails(t, fmt.Sprintf("%x and no right sum", s), s+strings.Repeat("\x00", 32), api.ErrSum)
		asLooked(t, summed(s))
		for at := range 4 {
			asLooked(t, summed("PACK"[:at]+string([]byte{byte(b)})+"PACK\x00"[at+1:]))
		}
	}
	gets(t, "37 bytes", summed("PACK\x00"), nil)
	fails(t, "37 bytes of nothing", strings.Repeat("\x00", 37), api.ErrSum)
}

func TestGetOfCounts(t *testing.T) {
	for _, count := range []int{199, 200} {
		s := bare(plain(times(count, whole(1, "x"))...))
		gets(t, "as many as may be", summed(s), times(count, whole(1, "x")))
		fails(t, "one less than is told", summed(s[:len(s)-2]), api.ErrMore)
		fails(t, "one more than is told", summed(s+"\x11x"), api.ErrForm)
		fails(t, "many with a wrong sum", s+strings.Repeat("s", 32), api.ErrSum)
	}
	for _, count := range []int{201, 202, 255, 256, 257, 16384, 65536, 999999, 1000000} {
		begun := "PACK" + number(count)
		for name, s := range map[string]string{
			"with nothing behind": begun, "with all items": begun + strings.Repeat("\x11x", count), "with 200 items": begun + strings.Repeat("\x11x", 200),
			"with what is no item": begun + "\x00", "with a wrong Back": begun + "\x61\x01d", "with too much behind": begun + strings.Repeat("\x10", count+1),
		} {
			fails(t, fmt.Sprintf("a count of %d %s", count, name), summed(s), api.ErrLimit)
			fails(t, fmt.Sprintf("a count of %d %s, wrong sum", count, name), s+strings.Repeat("s", 32), api.ErrSum)
		}
	}
	// What is no number is told as vary.Get tells it: it is no count.
	for s, want := range map[string]api.Errno{
		"\x80": api.ErrMore, "\xc8": api.ErrMore, "\xc9": api.ErrMore, "\xff": api.ErrMore, "\x80\x80": api.ErrMore, "\xc8\x80": api.ErrMore,
		"\x80\x00": api.ErrForm, "\x81\x00": api.ErrForm, "\xc8\x81\x00": api.ErrForm, "\xc1\x84\x3d": api.ErrForm, "\x80\x80\x80": api.ErrForm, "\xff\xff\xff\x7f": api.ErrForm,
	} {
		fails(t, fmt.Sprintf("a count of %x", s), summed("PACK"+s), want)
	}
}

// The first error that holds is told, in the chapter's order.
func TestGetOfTwoErrors(t *testing.T) {
	wrong := strings.Repeat("s", 32)
	for _, x := range []struct {
		name, s string
		want    api.Errno
	}{
		{"too few bytes, no pack", "PACQ", api.ErrMore},
		{"too few bytes, a wrong sum", "PACK" + wrong, api.ErrMore},
		{"too few bytes, a right sum", summed("PACK"), api.ErrMore},
		{"a wrong sum, no pack", "PACQ\x00" + wrong, api.ErrSum},
		{"a wrong sum, a wrong count", "PACK\x81\x00" + wrong, api.ErrSum},
		{"a wrong sum, a count that is cut off", "PACK\x81" + wrong, api.ErrSum},
		{"a wrong sum, something behind", "PACK\x00x" + wrong, api.ErrSum},
		{"a wrong sum, a wrong Kind", "PACK\x01\x00" + wrong, api.ErrSum},
		{"no pack, nothing behind", summed("PACQ\x00"), api.ErrForm},
		{"no pack, a count that is cut off", summed("PACQ\x80"), api.ErrForm},
		{"no pack, an item that is cut off", summed("PACQ\x01"), api.ErrForm},
		// The chapter names the limit first; but what is no pack has no count.
		{"no pack, a count of 201", summed("PACQ\xc9\x01"), api.ErrForm},
		{"a wrong Kind, its size cut off", summed("PACK\x01\x80"), api.ErrForm},
		{"a wrong Kind, something behind", summed("PACK\x01\x00xx"), api.ErrForm},
		{"too long a Body, not there", summed("PACK\x01\x91\xea\x30"), api.ErrForm},
		{"too long a Body, no Back", summed("PACK\x02\x10\xe1\xea\x30"), api.ErrForm},
		{"too long a Body, no Base", summed("PACK\x01\xf1\xea\x30"), api.ErrForm},
		{"the longest Body, not there", summed("PACK\x01\x90\xea\x30"), api.ErrMore},
		{"the longest Body, no Back", summed("PACK\x02\x10\xe0\xea\x30"), api.ErrMore},
		{"the longest Body, no Base", summed("PACK\x01\xf0\xea\x30"), api.ErrMore},
		{"a Back that can't be, cut off", summed("PACK\x01\x60"), api.ErrMore},
		{"a Back that can't be, cut off within", summed("PACK\x02\x10\x60\x82"), api.ErrMore},
		{"a Back of 0, no Body", summed("PACK\x02\x10\x61\x00"), api.ErrForm},
		{"a Back too far, no Body", summed("PACK\x02\x10\x61\x02"), api.ErrForm},
		{"a Back too far, no further item", summed("PACK\x03\x10\x60\x02"), api.ErrForm},
		{"a wrong item, then none", summed("PACK\x03\x10\x40"), api.ErrForm},
		{"an item that is cut off by one that is wrong", summed("PACK\x02\x13\x40"), api.ErrMore},
	} {
		fails(t, x.name, x.s, x.want)
	}
}

// look reads a pack in another way than Get does: by places in the text, and
// on behind an error, whose first one it keeps.
type look struct {
	s  string
	at int
	e  api.Errno
}

func (l *look) must(ok bool, e api.Errno) {
	if l.e == api.OK && !ok {
		l.e = e
	}
}

// take is the next n bytes.
func (l *look) take(n int) string {
	l.must(n <= len(l.s)-l.at, api.ErrMore)
	if l.e != api.OK {
		return ""
	}
	l.at += n
	return l.s[l.at-n : l.at]
}

// number is one that stands as number tells it.
func (l *look) number() int {
	first := l.take(1)
	if l.e != api.OK {
		return 0
	}
	if first[0] < 128 {
		return int(first[0])
	}
	return l.rest(int(first[0])-128, 7)
}

// rest is the number whose lowest bits, so many, are n's, and that goes on. What
// is too much already, whatever follows, is told ahead of what is missing.
func (l *look) rest(n, width int) int {
	for {
		l.must(n+1<<width <= 1000000, api.ErrForm)
		b := l.take(1)
		if l.e != api.OK {
			return 0
		}
		n += int(b[0]%128) << width
		l.must(b != "\x00" && n <= 1000000, api.ErrForm)
		if b[0] < 128 {
			return n
		}
		width += 7
	}
}

// item is one that has so many ahead of it.
func (l *look) item(ahead int) pack.Item {
	first := l.take(1)
	if l.e != api.OK {
		return pack.Item{}
	}
	i := pack.Item{Kind: int(first[0]) / 16 % 8}
	size := int(first[0]) % 16
	l.must(i.Kind != 0 && i.Kind != 4 && i.Kind != 5, api.ErrForm)
	if first[0] >= 128 {
		size = l.rest(size, 4)
	}
	l.must(size <= mostBody, api.ErrForm)
	if i.Kind == 6 {
		i.Back = l.number()
		l.must(i.Back > 0 && ahead-i.Back >= 0, api.ErrForm)
	}
	if i.Kind == 7 {
		copy(i.Base[:], l.take(32))
	}
	i.Body = l.take(size)
	return i
}

// all is all items.
func (l *look) all() []pack.Item {
	l.must(l.take(4) == "PACK", api.ErrForm)
	count := l.number()
	l.must(count <= mostItems, api.ErrLimit)
	var is []pack.Item
	for l.e == api.OK && len(is) < count {
		is = append(is, l.item(len(is)))
	}
	l.must(l.at == len(l.s), api.ErrForm)
	return is
}

// asLooked asks that Get tells what the other way does, of a text with a right
// sum; and that Put tells it back, if it is none of the wrong ones.
func asLooked(t *testing.T, s string) {
	t.Helper()
	l := look{s: bare(s)}
	is := l.all()
	if l.e != api.OK {
		fails(t, fmt.Sprintf("%.80x", s), s, l.e)
		return
	}
	gets(t, fmt.Sprintf("%.80x", s), s, is)
	if back, ok := pack.Put(is...); !ok || back != s {
		t.Errorf("P11.1: Put of what Get tells of %.80x: %.80x, %v", s, back, ok)
	}
}

// short are the good lists whose texts are short enough for each byte's turns.
func short() []listed {
	return slices.DeleteFunc(good(), func(x listed) bool { return len(plain(x.is...)) > 165 })
}

func TestGetOfWhatIsCutOff(t *testing.T) {
	for _, x := range good() {
		s := plain(x.is...)
		step := 1 + len(s)/100
		for end := 0; end < len(s); end += step {
			want := api.ErrSum
			if end < 37 {
				want = api.ErrMore
			}
			fails(t, fmt.Sprintf("%s, cut off at %d", x.name, end), s[:end], want)
			if 5 <= end && end <= len(s)-32 {
				asLooked(t, summed(s[:end]))
			}
		}
		// Cut off behind just so many items, or within one: there are too few.
		for end := len(bare(s)) - 1; end > len(bare(s))-20 && end >= 5 && len(x.is) > 0; end-- {
			fails(t, fmt.Sprintf("%s, cut off at %d, summed", x.name, end), summed(s[:end]), api.ErrMore)
		}
	}
}

// Each byte is turned to each other one: the sum tells it; and where that is
// made right again, the parts tell of it what they have to.
func TestGetOfTurnedBytes(t *testing.T) {
	for _, x := range short() {
		s := plain(x.is...)
		for at := range s {
			for b := range 256 {
				if byte(b) == s[at] {
					continue
				}
				one := string([]byte{byte(b)})
				fails(t, fmt.Sprintf("%s, %d turned to %x", x.name, at, b), s[:at]+one+s[at+1:], api.ErrSum)
				if at < len(s)-32 {
					asLooked(t, summed(bare(s)[:at]+one+bare(s)[at+1:]))
				}
			}
		}
	}
}

// A byte is put in, or taken out, at each place; or nothing stands behind it.
func TestGetOfMovedBytes(t *testing.T) {
	for _, x := range short() {
		s := bare(plain(x.is...))
		for at := range s {
			if len(s) > 5 {
				asLooked(t, summed(s[:at]+s[at+1:]))
			}
			for b := range 256 {
				one := string([]byte{byte(b)})
				asLooked(t, summed(s[:at]+one+s[at:]))
				if at >= 4 {
					asLooked(t, summed(s[:at]+one))
				}
			}
		}
	}
}

func TestGetOfWhatStandsBehind(t *testing.T) {
	for _, x := range good() {
		s := plain(x.is...)
		for _, more := range []string{"\x00", "x", "\x10", plainItem(whole(1, "")), plainItem(byName(id(1), "x")), bare(s), s, strings.Repeat("\x00", 32), strings.Repeat("x", 1<<16)} {
			fails(t, x.name+" with more behind, summed", summed(bare(s)+more), api.ErrForm)
			if more != s {
				fails(t, x.name+" with more behind", s+more, api.ErrSum)
			}
		}
		fails(t, x.name+" with two sums", summed(s), api.ErrForm)
	}
}

// Of all texts of a few bytes just those are right that Put tells of items.
func TestGetOfAllShortTexts(t *testing.T) {
	signs := []byte{0, 1, 2, 0x10, 0x11, 0x21, 0x60, 0x61, 0x70, 0x80, 0x90}
	var check func(s string, more int)
	check = func(s string, more int) {
		asLooked(t, summed(s))
		if more == 0 {
			return
		}
		for _, b := range signs {
			check(s+string([]byte{b}), more-1)
		}
	}
	for count := range 3 {
		check("PACK"+number(count), 4)
	}
	check("PACK\x03\x11x\x60\x01", 3)
	check("PACK\x02"+plainItem(byName(id(1), "x"))+"\x61", 3)
}

func TestGetOfNoise(t *testing.T) {
	for seed := range 300 {
		noise := text(uint32(seed), 300)
		fails(t, "noise", noise, api.ErrSum)
		for _, begun := range []string{"", "PACK", "PACK\x01", "PACK\x02\x10", "PACK\xc8\x01", "PACK\x05\x11x\x61"} {
			asLooked(t, summed(begun+noise))
		}
	}
	for b := range 256 {
		many := strings.Repeat(string([]byte{byte(b)}), 1<<16)
		for _, begun := range []string{"", "PACK", "PACK\x01", "PACK\xc8\x01", "PACK\xc8\x01\x11x"} {
			asLooked(t, summed(begun+many))
		}
	}
}

// objects are such of all kinds that may be.
func objects() []api.Object {
	return []api.Object{
		blobOf(""), blobOf("hello\n"), blobOf(strings.Repeat("b", 1000)), blobOf("PACK\x00"),
		treeOf(), treeOf("a"), treeOf("a", "b", "readme"), {Kind: api.KTree, Entries: []api.Entry{{Name: "d", Tree: true, Id: id(3)}}},
		commitOf(""), commitOf("first\n"), {Kind: api.KCommit, Commit: api.Commit{Tree: id(1), Parents: []api.Id{id(2), id(3)}, When: -2.5, Note: "n\n\nx"}},
	}
}

func blobOf(s string) api.Object { return api.Object{Kind: api.KBlob, Blob: s} }

// treeOf is a tree of files of those names.
func treeOf(names ...string) api.Object {
	o := api.Object{Kind: api.KTree}
	for n, name := range names {
		o.Entries = append(o.Entries, api.Entry{Name: name, Id: id(n)})
	}
	return o
}

func commitOf(note string) api.Object {
	return api.Object{Kind: api.KCommit, Commit: api.Commit{When: 1.5, Note: note}}
}

// noObjects are such that may not be.
func noObjects() []api.Object {
	return []api.Object{
		{}, {Blob: "x"}, {Kind: 4, Blob: "x"}, {Kind: 6, Blob: "x"}, {Kind: 7}, {Kind: -1}, {Kind: 1<<32 + 1, Blob: "x"}, {Kind: math.MinInt},
		blobOf(strings.Repeat("b", 1001)), blobOf(strings.Repeat("b", 1<<20)), {Kind: api.KBlob, Blob: "x", Entries: treeOf("a").Entries}, {Kind: api.KBlob, Commit: api.Commit{Note: "n"}},
		treeOf("b", "a"), treeOf("a", "a"), treeOf(".."), {Kind: api.KTree, Blob: "x"},
		commitOf(strings.Repeat("n", 101)), {Kind: api.KCommit, Blob: "x"}, {Kind: api.KCommit, Commit: api.Commit{When: math.NaN()}}, {Kind: api.KCommit, Commit: api.Commit{Parents: []api.Id{{}, {}}}},
	}
}

// itemsOf are the bodies of objects that may be.
func itemsOf(os []api.Object) []pack.Item {
	var is []pack.Item
	for _, o := range os {
		body, _ := object.Put(o)
		is = append(is, whole(o.Kind, body))
	}
	return is
}

func TestOf(t *testing.T) {
	all := objects()
	lists := [][]api.Object{nil, {}, all, slices.Repeat(all, 18), slices.Repeat(all[:1], mostItems), slices.Repeat(all[4:5], mostItems-1), {all[1], all[1], all[5], all[1]}}
	for _, o := range all {
		lists = append(lists, []api.Object{o}, []api.Object{o, o})
	}
	for n, os := range lists {
		if got, ok := pack.Of(os...); !ok || got != plain(itemsOf(os)...) {
			t.Errorf("P11.2: Of of list %d, of %d objects: %d bytes, %v", n, len(os), len(got), ok)
		}
	}
	if got, ok := pack.Of(blobOf("x"), treeOf(), blobOf("x")); !ok || got != summed("PACK\x03\x11x\x20\x11x") {
		t.Errorf("P11.2: Of: %x, %v", got, ok)
	}
}

func TestOfOfWrong(t *testing.T) {
	lists := [][]api.Object{slices.Repeat(objects()[:1], mostItems+1), slices.Repeat(objects(), 19), make([]api.Object, 100_000), slices.Repeat(objects()[:1], 100_000)}
	for _, o := range noObjects() {
		lists = append(lists, []api.Object{o}, append(objects(), o), append([]api.Object{o}, objects()...), []api.Object{blobOf("x"), o, blobOf("x")})
	}
	for n, os := range lists {
		if got, ok := pack.Of(os...); ok || got != "" {
			t.Errorf("P0.2, P11.2: Of of list %d, of %d objects: %d bytes, %v", n, len(os), len(got), ok)
		}
	}
}

// spare is a list with room behind it that is written full.
func spare[E any](list []E, fill E) (part, room []E) {
	room = append(slices.Clone(list), slices.Repeat([]E{fill}, 5)...)
	return room[:len(list)], room
}

func TestPutLeavesItsList(t *testing.T) {
	for _, x := range append(good(), bad()[:200]...) {
		part, room := spare(x.is, pack.Item{Kind: 9, Back: 9, Base: id(9), Body: "spare"})
		before := slices.Clone(room)
		first, _ := pack.Put(part...)
		if !slices.Equal(room, before) {
			t.Errorf("P0.3: Put of %s changes its list", x.name)
		}
		// Nor is it kept: what it was is told, whatever is written into it.
		clear(room)
		if second, _ := pack.Put(x.is...); second != first {
			t.Errorf("P0.3: Put of %s, again: another one", x.name)
		}
	}
}

// A list that Get tells is the caller's own, its spare room too.
func TestGetTellsNewLists(t *testing.T) {
	for _, x := range good() {
		s := plain(x.is...)
		one, _ := pack.Get(s)
		two, _ := pack.Get(s)
		for i := range one[:cap(one)] {
			one[:cap(one)][i] = pack.Item{Kind: -1, Back: -1, Base: id(99), Body: "spoilt"}
		}
		if !slices.Equal(two, x.is) {
			t.Errorf("P0.3: Get of %s: its lists share memory", x.name)
		}
		gets(t, x.name+", again", s, x.is)
	}
}

func TestOfLeavesItsList(t *testing.T) {
	for _, os := range [][]api.Object{objects(), append(objects(), noObjects()...)} {
		part, room := spare(os, blobOf("spare"))
		before := fmt.Sprint(room)
		first, firstOk := pack.Of(part...)
		if fmt.Sprint(room) != before {
			t.Error("P0.3: Of changes its list")
		}
		for i := range room {
			clear(room[i].Entries)
			clear(room[i].Commit.Parents)
		}
		clear(room)
		if second, ok := pack.Of(append(objects(), noObjects()...)[:len(os)]...); second != first || ok != firstOk {
			t.Error("P0.3, P0.5: Of, again: another one")
		}
	}
}

// A call keeps nothing of an earlier one, be that one of what is wrong.
func TestCallsStandAlone(t *testing.T) {
	is := oneOfEach()
	s := plain(is...)
	for range 3 {
		pack.Put(append(times(3, whole(1, "x")), pack.Item{})...)
		pack.Of(noObjects()...)
		for _, wrong := range []string{"", s[:40], s + "x", summed("PACK\x02\x10"), summed("PACQ\x00"), summed("PACK\xc9\x01")} {
			pack.Get(wrong)
			pack.Objects(wrong)
		}
		if got, ok := pack.Put(is...); got != s || !ok {
			t.Errorf("P0.5: Put: %x, %v", got, ok)
		}
		gets(t, "the same", s, is)
		if got, ok := pack.Of(blobOf("x")); got != summed("PACK\x01\x11x") || !ok {
			t.Errorf("P0.5: Of: %x, %v", got, ok)
		}
	}
}

func ExamplePut() {
	s, ok := pack.Put(pack.Item{Kind: api.KBlob, Body: "hi"}, pack.Item{Kind: 6, Back: 1, Body: "\x02\x03\x80\x00\x02\x01!"})
	fmt.Printf("%x... %v\n", s[:17], ok)
	_, ok = pack.Put(pack.Item{Kind: 6, Back: 1})
	fmt.Println(ok)
	is, e := pack.Get(s)
	fmt.Println(len(is), is[1].Back, e == api.OK)
	_, e = pack.Get(s + "x")
	fmt.Println(e == api.ErrSum)
	// Output:
	// 5041434b02126869670102038000020121... true
	// false
	// 2 1 true
	// true
}

func ExampleOf() {
	s, _ := pack.Of(api.Object{Kind: api.KBlob, Blob: "hi"}, api.Object{Kind: api.KTree})
	os, e := pack.Objects(s)
	fmt.Println(len(os), os[0].Blob, e == api.OK)
	// Output: 2 hi true
}

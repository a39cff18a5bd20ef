package thin_test

import (
	"bytes"
	"crypto/sha256"
	"fmt"
	"math"
	"math/bits"
	"slices"
	"strings"
	"testing"

	"colporteur/api"
	"colporteur/delta"
	"colporteur/object"
	"colporteur/oid"
	"colporteur/pack"
	"colporteur/thin"
)

const mostItems = 200

// id is a name of an object, of bytes that hang on n.
func id(n int) api.Id {
	var found api.Id
	for i := range found {
		found[i] = byte(n + i*37)
	}
	return found
}

// text is so many bytes that hang on seed.
func text(seed uint32, n int) string {
	b := make([]byte, n)
	for i := range b {
		seed = seed*1664525 + 1013904223
		b[i] = byte(seed >> 24)
	}
	return string(b)
}

// number is n, seven bits a byte, put together anew.
func number(n int) string {
	width := max(1, (bits.Len(uint(n))+6)/7)
	b := make([]byte, width)
	for i := range b {
		b[i] = byte(n>>(7*i))%128 + 128
	}
	b[width-1] -= 128
	return string(b)
}

// head is an item's kind and size, put together anew.
func head(kind, size int) string {
	first := byte(kind*16 + size%16)
	if size < 16 {
		return string([]byte{first})
	}
	return string([]byte{first + 128}) + number(size/16)
}

// summed is s with its sum behind.
func summed(s string) string {
	h := sha256.Sum256([]byte(s))
	return s + string(h[:])
}

// bare is s without its sum.
func bare(s string) string { return s[:len(s)-32] }

// plain is what encodes items, be they such that may or not, put together anew.
func plain(is ...pack.Item) string {
	var s strings.Builder
	s.WriteString("PACK" + number(len(is)))
	for _, i := range is {
		s.WriteString(head(i.Kind, len(i.Body)))
		if i.Kind == 6 {
			s.WriteString(number(i.Back))
		}
		if i.Kind == 7 {
			s.Write(i.Base[:])
		}
		s.WriteString(i.Body)
	}
	return summed(s.String())
}

func blob(s string) api.Object { return api.Object{Kind: api.KBlob, Blob: s} }

func blobs(texts ...string) []api.Object {
	var os []api.Object
	for _, s := range texts {
		os = append(os, blob(s))
	}
	return os
}

// tree is one of files of those names.
func tree(names ...string) api.Object {
	o := api.Object{Kind: api.KTree}
	for n, name := range names {
		o.Entries = append(o.Entries, api.Entry{Name: name, Id: id(n)})
	}
	return o
}

func commit(note string, parents ...api.Id) api.Object {
	return api.Object{Kind: api.KCommit, Commit: api.Commit{Tree: id(1), Parents: parents, When: 1.5, Note: note}}
}

// objects are such of all kinds that may be.
func objects() []api.Object {
	return []api.Object{
		blob(""), blob("hello\n"), blob("x"), blob(text(5, 1000)), blob("PACK\x00"), blob("tree"),
		tree(), tree("a"), tree("a", "b", "readme"), {Kind: api.KTree, Entries: []api.Entry{{Name: "d", Tree: true, Id: id(3)}}},
		commit(""), commit("first\n"), commit("n\n\nx", id(2), id(3)), {Kind: api.KCommit, Commit: api.Commit{Tree: id(9), When: -2.5}},
	}
}

// noObjects are such that may not be.
func noObjects() []api.Object {
	return []api.Object{
		{}, {Blob: "x"}, {Kind: 4, Blob: "x"}, {Kind: 6, Blob: "x"}, {Kind: 7}, {Kind: -1}, {Kind: 1<<32 + 1, Blob: "x"}, {Kind: math.MinInt},
		blob(strings.Repeat("b", 1001)), blob(strings.Repeat("b", 1<<20)), {Kind: api.KBlob, Blob: "x", Entries: tree("a").Entries}, {Kind: api.KBlob, Commit: api.Commit{Note: "n"}},
		tree("b", "a"), tree("a", "a"), tree(".."), {Kind: api.KTree, Blob: "x"},
		commit(strings.Repeat("n", 101)), {Kind: api.KCommit, Blob: "x"}, {Kind: api.KCommit, Commit: api.Commit{When: math.NaN()}}, commit("", id(1), id(1)),
	}
}

// body is what encodes o, which may be.
func body(o api.Object) string {
	s, ok := object.Put(o)
	if !ok {
		panic("this object may not be")
	}
	return s
}

// name is o's, found anew.
func name(o api.Object) api.Id {
	word := []string{api.KBlob: "blob", api.KTree: "tree", api.KCommit: "commit"}[o.Kind]
	return sha256.Sum256(fmt.Appendf(nil, "%s %d\x00%s", word, len(body(o)), body(o)))
}

// whole is o as it stands.
func whole(o api.Object) pack.Item { return pack.Item{Kind: o.Kind, Body: body(o)} }

func wholes(os ...api.Object) []pack.Item {
	var is []pack.Item
	for _, o := range os {
		is = append(is, whole(o))
	}
	return is
}

// back and on are deltas of a that make b: of what stands so far ahead, of what
// has a's name.
func back(n int, a, b api.Object) pack.Item {
	return pack.Item{Kind: 6, Back: n, Body: delta.Make(body(a), body(b))}
}

func on(a, b api.Object) pack.Item {
	return pack.Item{Kind: 7, Base: name(a), Body: delta.Make(body(a), body(b))}
}

func backBlob(n int, a, b string) pack.Item { return back(n, blob(a), blob(b)) }

func onBlob(a, b string) pack.Item { return on(blob(a), blob(b)) }

func items(is ...pack.Item) []pack.Item { return is }

// once is os by rising names, each once, put in order anew.
func once(os []api.Object) []api.Object {
	var found []api.Object
	for _, o := range os {
		at := 0
		for at < len(found) && bytes.Compare(nameBytes(found[at]), nameBytes(o)) < 0 {
			at++
		}
		if at == len(found) || name(found[at]) != name(o) {
			found = slices.Insert(found, at, o)
		}
	}
	return found
}

func nameBytes(o api.Object) []byte {
	n := name(o)
	return n[:]
}

// makes asks that Whole makes of items just these objects.
func makes(t *testing.T, what string, is []pack.Item, held, want []api.Object) {
	t.Helper()
	got, e := thin.Whole(plain(is...), held)
	if right := plain(wholes(once(want)...)...); e != api.OK || got != right {
		t.Errorf("P12.1: Whole of %s: %d: %.100x, not %.100x", what, e, got, right)
	}
}

// makesBlobs asks that Whole makes of items just blobs of these texts.
func makesBlobs(t *testing.T, what string, is []pack.Item, held []api.Object, texts ...string) {
	t.Helper()
	makes(t, what, is, held, blobs(texts...))
}

// fails asks that Whole tells of s that error, and nothing else.
func fails(t *testing.T, what, s string, held []api.Object, want api.Errno) {
	t.Helper()
	if got, e := thin.Whole(s, held); e != want || got != "" {
		t.Errorf("P0.2, P12.1: Whole of %s: %d bytes, %d, not %d", what, len(got), e, want)
	}
}

// breaks asks that Whole tells of items that error, and nothing else.
func breaks(t *testing.T, what string, is []pack.Item, held []api.Object, want api.Errno) {
	t.Helper()
	fails(t, what, plain(is...), held, want)
}

// junk are items of all kinds but 7, with a Base, be it theirs or not.
func junk() []pack.Item {
	var is []pack.Item
	for _, kind := range []int{1, 2, 3, 6, 0, -1, -7, 4, 5, 8, 14, 15, 23, 71, 128 + 7, 256 + 7, 1<<32 + 7, -1<<32 + 7, math.MinInt + 7, math.MaxInt, math.MinInt} {
		is = append(is, pack.Item{Kind: kind, Base: id(kind)}, pack.Item{Kind: kind, Back: 1, Base: id(3), Body: "x"})
	}
	return is
}

func TestNeeds(t *testing.T) {
	leaning := func(ids ...api.Id) []pack.Item {
		var is []pack.Item
		for _, base := range ids {
			is = append(is, pack.Item{Kind: 7, Base: base})
		}
		return is
	}
	a, b, c := api.Id{1}, api.Id{1, 1}, api.Id{2}
	last, high, none := api.Id{31: 1}, api.Id{255}, api.Id{}
	mixed := slices.Concat(junk(), leaning(high), junk(), leaning(b, a), junk())
	for what, x := range map[string]struct {
		is   []pack.Item
		want []api.Id
	}{
		"nil": {}, "an empty list": {is: items()}, "none of Kind 7": {is: junk()}, "zero items": {is: make([]pack.Item, 300)},
		"one":                               {leaning(a), []api.Id{a}},
		"a Base of zeros":                   {leaning(none), []api.Id{none}},
		"a Base of zeros behind others":     {leaning(a, none, c), []api.Id{none, a, c}},
		"the same Base twice":               {leaning(a, a), []api.Id{a}},
		"the same Base, others between":     {leaning(a, c, b, a, c, a), []api.Id{a, b, c}},
		"zeros twice":                       {leaning(none, a, none), []api.Id{none, a}},
		"rising Bases":                      {leaning(none, last, a, b, c, high), []api.Id{none, last, a, b, c, high}},
		"falling Bases":                     {leaning(high, c, b, a, last, none), []api.Id{none, last, a, b, c, high}},
		"mixed Bases":                       {leaning(b, high, none, c, last, a, b), []api.Id{none, last, a, b, c, high}},
		"Bases beside items of other Kinds": {mixed, []api.Id{a, b, high}},
		"what else stands in an item":       {items(pack.Item{Kind: 7, Back: 1, Base: c, Body: "x"}, pack.Item{Kind: 7, Back: -5, Base: a}, pack.Item{Kind: 7, Base: c}), []api.Id{a, c}},
	} {
		if got := thin.Needs(x.is); !slices.Equal(got, x.want) {
			t.Errorf("P12.1: Needs of %s: %x, not %x", what, got, x.want)
		}
	}
}

// Needs has no limit on how many items there are.
func TestNeedsOfLongLists(t *testing.T) {
	var falling, same []pack.Item
	var want []api.Id
	for n := range 100_000 {
		base := api.Id{byte(n >> 16), byte(n >> 8), byte(n)}
		want = append(want, base)
		falling = append(falling, pack.Item{Kind: 7, Base: base})
		same = append(same, pack.Item{Kind: 7, Base: id(8)})
	}
	slices.Reverse(falling)
	if got := thin.Needs(falling); !slices.Equal(got, want) {
		t.Errorf("P12.1: Needs of many: %d names", len(got))
	}
	if got := thin.Needs(slices.Concat(falling, falling)); !slices.Equal(got, want) {
		t.Errorf("P12.1: Needs of many, each twice: %d names", len(got))
	}
	if got := thin.Needs(same); !slices.Equal(got, []api.Id{id(8)}) {
		t.Errorf("P12.1: Needs of many of one name: %d names", len(got))
	}
}

func TestWholeOfNoItem(t *testing.T) {
	for _, held := range [][]api.Object{nil, {}, objects(), noObjects()} {
		if got, e := thin.Whole(summed("PACK\x00"), held); e != api.OK || got != summed("PACK\x00") {
			t.Errorf("P12.1: Whole of no item: %x, %d", got, e)
		}
	}
}

func TestWholeOfWholes(t *testing.T) {
	all := once(objects())
	falling, mixed := slices.Clone(all), slices.Clone(all)
	slices.Reverse(falling)
	slices.SortFunc(mixed, func(a, b api.Object) int { return strings.Compare(body(a), body(b)) })
	for what, os := range map[string][]api.Object{
		"all kinds": objects(), "rising order": all, "falling order": falling, "mixed order": mixed, "all twice": slices.Concat(all, falling), "each twice in a row": slices.Concat(all[:2], all[1:3], all[2:]),
		"200 of the same": slices.Repeat(all[:1], mostItems), "200 of some": slices.Repeat(falling[:10], 20), "first and last the same": append(slices.Clone(all), all[0]),
	} {
		for _, held := range [][]api.Object{nil, all, noObjects()} {
			makes(t, what, wholes(os...), held, os)
		}
	}
	for _, o := range all {
		makes(t, "one", wholes(o), nil, []api.Object{o})
		makes(t, "one twice", wholes(o, o), nil, []api.Object{o})
		makes(t, "one thrice, with another", wholes(o, all[0], o, o), nil, []api.Object{all[0], o})
	}
	var many []api.Object
	for n := range mostItems {
		many = append(many, blob(fmt.Sprint(n)))
	}
	makes(t, "200 of their own", wholes(many...), nil, many)
	// What has the same bytes, but another kind, is another object.
	same := items(whole(blob("")), whole(tree()), pack.Item{Kind: 1, Body: body(tree("a"))}, whole(tree("a")), whole(blob("")), whole(blob(body(commit("n")))), whole(commit("n")))
	makes(t, "the same bytes of other kinds", same, nil, []api.Object{blob(""), tree(), blob(body(tree("a"))), tree("a"), commit("n"), blob(body(commit("n")))})
}

// What is whole already stays as it is.
func TestWholeOfWhole(t *testing.T) {
	one, e := thin.Whole(plain(wholes(objects()...)...), nil)
	two, again := thin.Whole(one, objects())
	if e != api.OK || again != api.OK || one != two {
		t.Errorf("P12.1: Whole of Whole: %d, %d", e, again)
	}
	if os, e := pack.Objects(one); e != api.OK || !slices.EqualFunc(os, once(objects()), object.Eq) {
		t.Errorf("P12.1: Objects of Whole: %d objects, %d", len(os), e)
	}
}

func TestWholeOfDeltas(t *testing.T) {
	makesBlobs(t, "by Back", items(whole(blob("a")), backBlob(1, "a", "ab")), nil, "a", "ab")
	makesBlobs(t, "by Back, far", items(whole(blob("a")), whole(blob("b")), whole(blob("c")), backBlob(3, "a", "q"), backBlob(3, "b", "p")), nil, "a", "b", "c", "q", "p")
	makesBlobs(t, "by name, the base ahead", items(whole(blob("a")), onBlob("a", "ab")), nil, "a", "ab")
	makesBlobs(t, "by name, the base behind", items(onBlob("a", "ab"), whole(blob("a"))), nil, "a", "ab")
	makesBlobs(t, "by name, the base is a delta behind", items(onBlob("ab", "abc"), whole(blob("a")), backBlob(1, "a", "ab")), nil, "a", "ab", "abc")
	makesBlobs(t, "held's", items(onBlob("h", "hh")), blobs("h"), "hh")
	makesBlobs(t, "held's, and by Back of that", items(onBlob("h", "hh"), backBlob(1, "hh", "x")), blobs("h"), "hh", "x")
	makesBlobs(t, "held's, many of one", items(onBlob("h", "x"), onBlob("h", "y"), onBlob("h", "x")), blobs("h"), "x", "y")
	makesBlobs(t, "held's, of many", items(onBlob("c", "x"), onBlob("a", "y"), onBlob("b", "z")), blobs("a", "b", "c", "d"), "x", "y", "z")
	makesBlobs(t, "held's, made again", items(onBlob("h", "h")), blobs("h"), "h")
	makesBlobs(t, "one that stands whole, too, behind", items(whole(blob("a")), backBlob(1, "a", "b"), whole(blob("b"))), nil, "a", "b")
	makesBlobs(t, "one that stands whole, too, ahead", items(whole(blob("b")), whole(blob("a")), onBlob("a", "b"), backBlob(2, "a", "b")), nil, "a", "b")
	makesBlobs(t, "one that is held, too", items(whole(blob("a")), onBlob("a", "h")), blobs("h"), "a", "h")
	makesBlobs(t, "a base that an item has, and held", items(onBlob("a", "x"), whole(blob("a"))), blobs("a"), "a", "x")
	makesBlobs(t, "a base that a delta makes, and held has", items(onBlob("b", "x"), whole(blob("a")), onBlob("a", "b")), blobs("b"), "a", "b", "x")
	makesBlobs(t, "an empty base, an empty text", items(onBlob("", "x"), onBlob("h", "")), blobs("", "h"), "", "x")
	makesBlobs(t, "200 deltas", slices.Repeat(items(onBlob("a", "x"), onBlob("b", "y")), 100), blobs("a", "b"), "x", "y")
}

// What is held is no part of what is made, unless an item makes it.
func TestWholeLeavesOutWhatIsHeld(t *testing.T) {
	makesBlobs(t, "a delta of what is held", items(onBlob("h", "x")), append(objects(), blob("h")), "x")
	makesBlobs(t, "no delta", items(whole(blob("y"))), objects(), "y")
}

func TestWholeOfDeltasOfAllKinds(t *testing.T) {
	one, two := tree("f"), tree("f", "g")
	first, second := commit("first\n"), commit("second\n", id(5))
	held := []api.Object{first, blob("h"), one, commit("other"), tree("z")}
	makes(t, "deltas of held trees", items(on(one, two), on(one, tree())), held, []api.Object{two, tree()})
	makes(t, "deltas of held commits", items(on(first, second), back(1, second, commit(""))), held, []api.Object{second, commit("")})
	makes(t, "deltas of all kinds", items(on(first, second), on(one, two), onBlob("h", "x"), back(2, two, one), back(4, second, first)), held, []api.Object{second, two, blob("x"), one, first})
	makes(t, "deltas of all kinds, of items", items(back(0, one, two), whole(one), whole(first), back(1, first, second), on(one, tree()))[1:], nil, []api.Object{one, first, second, tree()})
	// A name is of a kind, too.
	breaks(t, "a blob where a tree is held", items(on(blob(""), blob("x"))), []api.Object{tree()}, api.ErrLink)
	breaks(t, "a tree where a blob is held", items(on(tree(), tree("f"))), blobs(""), api.ErrLink)
	breaks(t, "a commit where its bytes are held as a blob", items(on(first, second)), blobs(body(first)), api.ErrLink)
}

// chain is a blob and n deltas by Back, each of the one ahead; what they make.
func chain(n int) (is []pack.Item, texts []string) {
	is, texts = wholes(blob("0")), []string{"0"}
	for k := range n {
		texts = append(texts, fmt.Sprint(k+1))
		is = append(is, backBlob(1, texts[k], texts[k+1]))
	}
	return is, texts
}

// backwards is a blob behind n deltas by name, each of the one behind it.
func backwards(n int) (is []pack.Item, texts []string) {
	is, texts = chain(n)
	for k := 1; k <= n; k++ {
		is[k] = onBlob(texts[k-1], texts[k])
	}
	slices.Reverse(is)
	return is, texts
}

func TestWholeOfChains(t *testing.T) {
	for n := range 10 {
		byBack, texts := chain(n)
		byName, _ := backwards(n)
		// On what is held a chain is one delta shorter: that is made in no round.
		onHeld := append(items(onBlob("h", "0")), byBack[1:]...)
		byNameOnHeld := append(slices.Clone(byName[:n]), onBlob("h", "0"))
		if n <= 4 {
			makesBlobs(t, fmt.Sprintf("a chain of %d by Back", n), byBack, nil, texts...)
			makesBlobs(t, fmt.Sprintf("a chain of %d by name", n), byName, nil, texts...)
		} else {
			breaks(t, fmt.Sprintf("a chain of %d by Back", n), byBack, nil, api.ErrLimit)
			breaks(t, fmt.Sprintf("a chain of %d by name", n), byName, nil, api.ErrLimit)
			// A name on the way that is held makes it shorter.
			makesBlobs(t, fmt.Sprintf("a chain of %d by name, with some held", n), byName, blobs("3", "6"), texts...)
			breaks(t, fmt.Sprintf("a chain of %d by Back, with some held", n), byBack, blobs("3", "6"), api.ErrLimit)
		}
		if n <= 3 {
			makesBlobs(t, fmt.Sprintf("a chain of %d by Back, on what is held", n+1), onHeld, blobs("h"), texts...)
			makesBlobs(t, fmt.Sprintf("a chain of %d by name, on what is held", n+1), byNameOnHeld, blobs("h"), texts...)
		} else {
			breaks(t, fmt.Sprintf("a chain of %d by Back, on what is held", n+1), onHeld, blobs("h"), api.ErrLimit)
			breaks(t, fmt.Sprintf("a chain of %d by name, on what is held", n+1), byNameOnHeld, blobs("h"), api.ErrLimit)
		}
		breaks(t, fmt.Sprintf("a chain of %d on what is not held", n+1), onHeld, blobs("other"), api.ErrLink)
	}
	breaks(t, "deltas of each other", items(onBlob("a", "b"), onBlob("b", "a")), nil, api.ErrLink)
	makesBlobs(t, "deltas of each other, one held", items(onBlob("a", "b"), onBlob("b", "a")), blobs("a"), "a", "b")
	breaks(t, "a delta of itself", items(onBlob("a", "a")), nil, api.ErrLink)
}

func TestWholeOfHeld(t *testing.T) {
	is := items(onBlob("h", "x"))
	for what, held := range map[string][]api.Object{
		"nil": nil, "none": {}, "others": objects(), "such that may not be": noObjects(), "zero objects": make([]api.Object, 1000), "a tree of no entries": {tree()},
		"the base with what is not of its kind": {{Kind: api.KBlob, Blob: "h", Entries: tree("a").Entries}, {Kind: api.KBlob, Blob: "h", Commit: api.Commit{Note: "n"}}},
		"the base of another kind":              {{Kind: 0, Blob: "h"}, {Kind: 4, Blob: "h"}, {Kind: 6, Blob: "h"}, {Kind: 1<<32 + 1, Blob: "h"}},
	} {
		breaks(t, "a delta, held: "+what, is, held, api.ErrLink)
		makesBlobs(t, "a delta, held: the base ahead of "+what, is, append(blobs("h"), held...), "x")
		makesBlobs(t, "a delta, held: the base behind "+what, is, append(slices.Clone(held), blob("h")), "x")
		makesBlobs(t, "a delta, held: the base twice, around "+what, is, append(append(blobs("h"), held...), blob("h")), "x")
	}
	breaks(t, "a delta of a blob that is too long", items(pack.Item{Kind: 7, Base: sha256.Sum256([]byte("blob 1001\x00" + strings.Repeat("b", 1001))), Body: delta.Make(strings.Repeat("b", 1001), "x")}), blobs(strings.Repeat("b", 1001)), api.ErrLink)
	breaks(t, "a delta of what is no object", items(pack.Item{Kind: 7, Base: sha256.Sum256([]byte("? 1\x00x")), Body: delta.Make("x", "y")}), noObjects(), api.ErrLink)
	breaks(t, "a delta of a name of zeros", items(pack.Item{Kind: 7, Body: delta.Make("", "x")}), append(objects(), noObjects()...), api.ErrLink)
	// Of what is wrong one that is held is not asked for at all.
	makesBlobs(t, "no delta", wholes(blob("x")), noObjects(), "x")
}

// Many that are held are looked through once, not for each delta.
func TestWholeOfMuchThatIsHeld(t *testing.T) {
	var held []api.Object
	var is []pack.Item
	var texts []string
	for n := range 50_000 {
		held = append(held, blob(fmt.Sprint(n)))
		if n%250 == 0 {
			is = append(is, onBlob(fmt.Sprint(n), fmt.Sprint(-n)))
			texts = append(texts, fmt.Sprint(-n))
		}
	}
	makesBlobs(t, "200 deltas of what 50,000 hold", is, held, texts...)
}

func TestWholeOfNoPack(t *testing.T) {
	s := plain(items(whole(blob("a")), backBlob(1, "a", "b"), onBlob("h", "x"))...)
	for _, held := range [][]api.Object{nil, blobs("h"), noObjects()} {
		for n := range 37 {
			fails(t, "too few bytes", s[:n], held, api.ErrMore)
			fails(t, "too few bytes of noise", text(uint32(n), n), held, api.ErrMore)
		}
		for at := range s {
			fails(t, "a turned byte", s[:at]+string([]byte{s[at] ^ 1})+s[at+1:], held, api.ErrSum)
		}
		for n := 37; n < len(s); n++ {
			fails(t, "what is cut off", s[:n], held, api.ErrSum)
			if n < len(s)-32 {
				fails(t, "what is cut off, summed", summed(s[:n]), held, api.ErrMore)
			}
		}
		fails(t, "something behind", s+"x", held, api.ErrSum)
		fails(t, "something behind, summed", summed(bare(s)+"x"), held, api.ErrForm)
		fails(t, "another word", summed("PACQ"+bare(s)[4:]), held, api.ErrForm)
		fails(t, "a count of 201", summed("PACK\xc9\x01"), held, api.ErrLimit)
		fails(t, "201 items", plain(slices.Repeat(wholes(blob("a")), mostItems+1)...), held, api.ErrLimit)
		fails(t, "a count of a million", summed("PACK\xc0\x84\x3d"), held, api.ErrLimit)
		fails(t, "a count that is none", summed("PACK\x80\x00"), held, api.ErrForm)
		fails(t, "a count that is cut off", summed("PACK\x80"), held, api.ErrMore)
		fails(t, "a Kind that is none", summed("PACK\x01\x40"), held, api.ErrForm)
		fails(t, "a Back of 0", summed("PACK\x01\x60\x00"), held, api.ErrForm)
		fails(t, "a Back ahead of the first", summed("PACK\x01\x60\x01"), held, api.ErrForm)
		fails(t, "too long a Body", plain(pack.Item{Kind: 1, Body: strings.Repeat("b", 100_001)}), held, api.ErrForm)
		fails(t, "too few items", summed("PACK\x02\x11x"), held, api.ErrMore)
		fails(t, "a Base that is cut off", summed("PACK\x01\x70"+strings.Repeat("b", 31)), held, api.ErrMore)
	}
}

func TestWholeOfWrongItems(t *testing.T) {
	long := strings.Repeat("y", 1001)
	h, x, one := blob("h"), blob("x"), tree("f")
	held := []api.Object{h, one, commit("c")}
	wrong := func(kind int, body string) pack.Item {
		if kind == 7 {
			return pack.Item{Kind: kind, Base: name(h), Body: body}
		}
		return pack.Item{Kind: kind, Back: 1, Body: body}
	}
	for _, kind := range []int{6, 7} {
		for what, c := range map[string]struct {
			body string
			want api.Errno
		}{
			"a delta of no byte": {"", api.ErrMore}, "a delta that is cut off": {"\x01", api.ErrMore}, "a delta whose cuts make less": {"\x01\x05\x01a", api.ErrMore}, "a delta of a wrong cut": {"\x01\x01\x00", api.ErrForm},
			"a delta whose cuts make more": {"\x01\x01\x02ab", api.ErrForm}, "a delta with something behind": {"\x01\x01\x01aa", api.ErrForm}, "a delta that copies too much": {"\x01\x02\x80\x00\x02", api.ErrForm},
			"a delta of a longer base": {delta.Make("hh", "x"), api.ErrForm}, "a delta of an empty base": {delta.Make("", "x"), api.ErrForm}, "a delta that makes too long a blob": {delta.Make("h", long), api.ErrLimit},
			"a delta that makes much too long a blob": {delta.Make("h", strings.Repeat("y", 50_000)), api.ErrLimit},
		} {
			breaks(t, fmt.Sprintf("%s, of Kind %d", what, kind), items(whole(h), wrong(kind, c.body)), held, c.want)
			breaks(t, fmt.Sprintf("%s, of Kind %d, with others", what, kind), items(whole(x), whole(h), wrong(kind, c.body), onBlob("h", "z"), whole(one)), held, c.want)
			if kind == 7 {
				breaks(t, what+", of what is held", items(wrong(kind, c.body)), held, c.want)
			}
		}
	}
	for what, is := range map[string][]pack.Item{
		"a tree": items(pack.Item{Kind: 2, Body: "x"}), "a commit": items(pack.Item{Kind: 3, Body: "x"}), "an empty commit": items(pack.Item{Kind: 3}), "a tree that is cut off": items(pack.Item{Kind: 2, Body: body(one)[:20]}),
		"a tree by Back": items(whole(one), pack.Item{Kind: 6, Back: 1, Body: delta.Make(body(one), "x")}), "a tree by name": items(pack.Item{Kind: 7, Base: name(one), Body: delta.Make(body(one), body(one)+body(one))}),
		"a commit by name": items(pack.Item{Kind: 7, Base: name(commit("c")), Body: delta.Make(body(commit("c")), "")}), "a commit of a tree's bytes": items(pack.Item{Kind: 7, Base: name(commit("c")), Body: delta.Make(body(commit("c")), body(one))}),
	} {
		breaks(t, "what may not be: "+what, is, held, api.ErrForm)
		breaks(t, "what may not be, behind others: "+what, append(wholes(x, h), is...), held, api.ErrForm)
	}
	breaks(t, "too long a blob", items(pack.Item{Kind: 1, Body: long}), held, api.ErrLimit)
	breaks(t, "too long a blob as the last of 200", append(slices.Repeat(wholes(x), mostItems-1), pack.Item{Kind: 1, Body: long}), held, api.ErrLimit)
}

// The errors of the text are told ahead of those of the items; and these by
// rounds, ahead of what is not there, and of too long chains.
func TestWholeOfTwoErrors(t *testing.T) {
	long, none := pack.Item{Kind: 1, Body: strings.Repeat("y", 1001)}, onBlob("none", "x")
	deep, _ := chain(5)
	breaks(t, "wrong items of two kinds", items(long, pack.Item{Kind: 2, Body: "x"}), nil, api.ErrLimit)
	breaks(t, "wrong items of two kinds, turned", items(pack.Item{Kind: 2, Body: "x"}, long), nil, api.ErrForm)
	breaks(t, "a wrong delta ahead of a wrong whole", items(pack.Item{Kind: 7, Base: name(blob("h"))}, long), blobs("h"), api.ErrLimit)
	breaks(t, "a wrong delta on what is not held", items(pack.Item{Kind: 7, Base: name(blob("h"))}), nil, api.ErrLink)
	breaks(t, "one that is not there, and a wrong whole", items(none, long), nil, api.ErrLimit)
	breaks(t, "one that is not there, and a long chain", append(slices.Clone(deep), none), nil, api.ErrLink)
	breaks(t, "an error at the end of a long chain", append(slices.Clone(deep), pack.Item{Kind: 6, Back: 1, Body: "\x01"}, none), nil, api.ErrMore)
	fails(t, "too long a blob, a wrong sum", bare(plain(long))+strings.Repeat("s", 32), nil, api.ErrSum)
	fails(t, "too long a blob, something behind", summed(bare(plain(long))+"x"), nil, api.ErrForm)
	fails(t, "too long a blob, then one that is cut off", summed(bare(plain(long, whole(blob("x"))))[:1005]), nil, api.ErrMore)
}

// coin throws numbers.
type coin uint32

func (c *coin) of(k int) int {
	*c = *c*1664525 + 1013904223
	return int(*c>>8) % k
}

// vocabulary is what thrown lists are made of.
func vocabulary() []api.Object {
	return append(blobs("a", "b", "ab", "ba", "abc", ""), tree(), tree("f"), tree("f", "g"), commit(""), commit("n"))
}

// thrown is a list of items that make what is thrown: most of them right, whole
// or as deltas.
func thrown(c *coin, all []api.Object) []pack.Item {
	targets := make([]api.Object, c.of(9))
	for at := range targets {
		targets[at] = all[c.of(len(all))]
	}
	var is []pack.Item
	for at, o := range targets {
		i := on(all[c.of(len(all))], o)
		switch c.of(4) {
		case 0:
			i = on(targets[c.of(len(targets))], o)
		case 1:
			n := 1 + c.of(at+1)
			i = back(n, targets[max(0, at-n)], o)
		case 2:
			i = whole(o)
		}
		if c.of(30) == 0 {
			i.Body = strings.Repeat("x", []int{1, 40, 1001}[c.of(3)])
		}
		is = append(is, i)
	}
	return is
}

// thrownHeld are some objects, in any order, some of them twice, some that may
// not be.
func thrownHeld(c *coin, all, wrong []api.Object) []api.Object {
	var held []api.Object
	for n := c.of(15); n > 0; n-- {
		held = append(held, all[c.of(len(all))])
		if c.of(5) == 0 {
			held = append(held, wrong[c.of(len(wrong))])
		}
	}
	return held
}

// slow is Whole as the chapter's words go.
func slow(s string, held []api.Object) (string, api.Errno) {
	is, e := pack.Get(s)
	if e != api.OK {
		return "", e
	}
	os, e := pack.Bodies(is, func(id api.Id) (int, string, bool) {
		for _, o := range held {
			if object.May(o) && name(o) == id {
				return o.Kind, body(o), true
			}
		}
		return 0, "", false
	})
	if e != api.OK {
		return "", e
	}
	return plain(wholes(once(os)...)...), api.OK
}

func TestWholeOfThrownLists(t *testing.T) {
	all, wrong := vocabulary(), noObjects()
	c := coin(5)
	told := map[api.Errno]int{}
	for range 10_000 {
		s, held := plain(thrown(&c, all)...), thrownHeld(&c, all, wrong)
		want, wantE := slow(s, held)
		if got, e := thin.Whole(s, held); got != want || e != wantE {
			t.Fatalf("P12.1: Whole of %x, with %.300v held: %x, %d, not %x, %d", s, held, got, e, want, wantE)
		}
		told[wantE]++
	}
	for _, e := range []api.Errno{api.OK, api.ErrForm, api.ErrMore, api.ErrLink, api.ErrLimit} {
		if told[e] < 30 {
			t.Errorf("the thrown lists tell %d too seldom: %v", e, told)
		}
	}
}

// spare is a list with room behind it that is written full.
func spare[E any](list []E, fill E) (part, room []E) {
	room = append(slices.Clone(list), slices.Repeat([]E{fill}, 5)...)
	return room[:len(list)], room
}

func TestNeedsLeavesItsList(t *testing.T) {
	is := items(onBlob("b", "x"), whole(blob("y")), onBlob("a", "z"), onBlob("b", "q"))
	part, room := spare(is, onBlob("spare", ""))
	before := slices.Clone(room)
	got := thin.Needs(part)
	if !slices.Equal(room, before) {
		t.Error("P0.3: Needs changes its list")
	}
	clear(room)
	if want := oid.Sort(name(blob("a")), name(blob("b"))); !slices.Equal(got, want) {
		t.Errorf("P0.3: Needs keeps its list: %x", got)
	}
}

func TestNeedsTellsNewLists(t *testing.T) {
	is := items(onBlob("b", "x"), onBlob("a", "z"), onBlob("c", "q"))
	one, two := thin.Needs(is), thin.Needs(is)
	want := slices.Clone(two)
	for at := range one[:cap(one)] {
		one[:cap(one)][at] = id(99)
	}
	if !slices.Equal(two, want) || !slices.Equal(thin.Needs(is), want) {
		t.Error("P0.3: the lists of Needs share memory")
	}
}

func TestWholeLeavesItsList(t *testing.T) {
	s := plain(onBlob("h", "x"), on(tree("f"), tree()), on(commit("c", id(3)), commit("d")))
	held := append(noObjects(), blob("h"), tree("f"), commit("c", id(3)), blob("h"))
	part, room := spare(held, blob("spare"))
	before := fmt.Sprint(room)
	first, e := thin.Whole(s, part)
	if fmt.Sprint(room) != before || e != api.OK {
		t.Errorf("P0.3: Whole changes its list, or tells %d", e)
	}
	clear(room)
	if again, e := thin.Whole(s, held); again != first || e != api.OK {
		t.Errorf("P0.3, P0.5: Whole, again: another one, %d", e)
	}
	fails(t, "the same without what was held", s, part, api.ErrLink)
}

// A call keeps nothing of an earlier one, be that one of what is wrong.
func TestCallsStandAlone(t *testing.T) {
	s := plain(onBlob("h", "x"), whole(blob("y")))
	want := plain(wholes(once(blobs("x", "y"))...)...)
	short, _ := thin.Thin(blobs("x", "y"), blobs("h"))
	for range 3 {
		fails(t, "no byte", "", blobs("h"), api.ErrMore)
		fails(t, "what is cut off", s[:40], blobs("h"), api.ErrSum)
		fails(t, "what is no pack", summed("PACQ\x00"), blobs("h"), api.ErrForm)
		fails(t, "what leans on what is not held", s, nil, api.ErrLink)
		if got, e := thin.Whole(s, blobs("h")); got != want || e != api.OK {
			t.Errorf("P0.5: Whole: %x, %d", got, e)
		}
		thin.Thin(noObjects(), objects())
		thin.Thin(objects(), objects())
		if got, ok := thin.Thin(blobs("x", "y"), blobs("h")); got != short || !ok {
			t.Errorf("P0.5: Thin: %x, %v", got, ok)
		}
		if got := thin.Needs(items(onBlob("h", "x"))); !slices.Equal(got, []api.Id{name(blob("h"))}) {
			t.Errorf("P0.5: Needs: %x", got)
		}
	}
}

func ExampleWhole() {
	held := []api.Object{{Kind: api.KBlob, Blob: "held"}}
	base := oid.Of(api.KBlob, "held")
	s, _ := pack.Put(pack.Item{Kind: 7, Base: base, Body: delta.Make("held", "holds")})
	is, _ := pack.Get(s)
	fmt.Println(thin.Needs(is)[0] == base)
	whole, e := thin.Whole(s, held)
	os, _ := pack.Objects(whole)
	fmt.Println(os[0].Blob, e == api.OK)
	_, e = thin.Whole(s, nil)
	fmt.Println(e == api.ErrLink)
	// Output:
	// true
	// holds true
	// true
}

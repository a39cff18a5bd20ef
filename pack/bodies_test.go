package pack_test

import (
	"crypto/sha256"
	"fmt"
	"math"
	"slices"
	"strings"
	"testing"

	"colporteur/api"
	"colporteur/delta"
	"colporteur/object"
	"colporteur/pack"
)

// holds is what Bodies is handed.
type holds = func(api.Id) (int, string, bool)

// thing is an object as its kind and what encodes it.
type thing struct {
	kind int
	body string
}

func blobThing(s string) thing { return thing{api.KBlob, s} }

// thingOf is o as one.
func thingOf(o api.Object) thing {
	body, _ := object.Put(o)
	return thing{o.Kind, body}
}

// name is the thing's, found anew.
func (x thing) name() api.Id {
	word := []string{api.KBlob: "blob", api.KTree: "tree", api.KCommit: "commit"}[x.kind]
	return sha256.Sum256(fmt.Appendf(nil, "%s %d\x00%s", word, len(x.body), x.body))
}

func (x thing) item() pack.Item { return whole(x.kind, x.body) }

// back and on are deltas of one thing that make another: of what stands so far
// ahead, of what has that name.
func (x thing) back(n int, y thing) pack.Item { return byBack(n, delta.Make(x.body, y.body)) }

func (x thing) on(y thing) pack.Item { return byName(x.name(), delta.Make(x.body, y.body)) }

func blobItem(s string) pack.Item { return whole(api.KBlob, s) }

func back(n int, base, text string) pack.Item { return blobThing(base).back(n, blobThing(text)) }

func on(base, text string) pack.Item { return blobThing(base).on(blobThing(text)) }

// holding holds things by their names.
func holding(xs ...thing) holds {
	return func(id api.Id) (int, string, bool) {
		for _, x := range xs {
			if x.name() == id {
				return x.kind, x.body, true
			}
		}
		return 0, "", false
	}
}

func holdingBlobs(texts ...string) holds {
	var xs []thing
	for _, s := range texts {
		xs = append(xs, blobThing(s))
	}
	return holding(xs...)
}

// lying tells the second thing by the name of the first.
func lying(name, tells thing) holds {
	return func(id api.Id) (int, string, bool) { return tells.kind, tells.body, id == name.name() }
}

// makes asks that Bodies makes just those.
func makes(t *testing.T, name string, is []pack.Item, held holds, want ...thing) {
	t.Helper()
	got, e := pack.Bodies(is, held)
	if e != api.OK || len(got) != len(want) {
		t.Errorf("P11.2: Bodies of %s: %d objects, %d", name, len(got), e)
		return
	}
	for at, o := range got {
		right, e := object.Get(want[at].kind, want[at].body)
		if e != api.OK || !object.Eq(o, right) {
			t.Errorf("P11.2: Bodies of %s: at %d: %.200v, not %.200v", name, at, o, right)
		}
	}
}

// makesBlobs asks that Bodies makes just blobs of those texts.
func makesBlobs(t *testing.T, name string, is []pack.Item, held holds, texts ...string) {
	t.Helper()
	var want []thing
	for _, s := range texts {
		want = append(want, blobThing(s))
	}
	makes(t, name, is, held, want...)
}

// breaks asks that Bodies tells that error, and nothing else.
func breaks(t *testing.T, name string, is []pack.Item, held holds, want api.Errno) {
	t.Helper()
	if got, e := pack.Bodies(is, held); e != want || got != nil {
		t.Errorf("P0.2, P11.2: Bodies of %s: %d objects, %d, not %d", name, len(got), e, want)
	}
}

func items(is ...pack.Item) []pack.Item { return is }

func TestBodiesOfWholes(t *testing.T) {
	makes(t, "nil", nil, nil)
	makes(t, "an empty list", items(), holdingBlobs("a"))
	var want []thing
	for _, o := range objects() {
		x := thingOf(o)
		want = append(want, x)
		makes(t, "one object", items(x.item()), nil, x)
		makes(t, "one object twice", items(x.item(), x.item()), nil, x, x)
	}
	makes(t, "objects of all kinds", itemsOf(objects()), nil, want...)
	makes(t, "200 objects", slices.Repeat(itemsOf(objects()[:2]), 100), nil, slices.Repeat(want[:2], 100)...)
	// It is packs alone that have 200 at most.
	makes(t, "5000 objects", slices.Repeat(itemsOf(objects()[:2]), 2500), nil, slices.Repeat(want[:2], 2500)...)
}

func TestBodiesByBack(t *testing.T) {
	makesBlobs(t, "one by the one ahead", items(blobItem("a"), back(1, "a", "ab")), nil, "a", "ab")
	makesBlobs(t, "some by the first", items(blobItem("a"), back(1, "a", "ab"), back(2, "a", "q"), back(3, "a", "")), nil, "a", "ab", "q", "")
	makesBlobs(t, "some by different ones", items(blobItem("a"), blobItem("bb"), blobItem("ccc"), back(1, "ccc", "x"), back(3, "bb", "y"), back(5, "a", "z")), nil, "a", "bb", "ccc", "x", "y", "z")
	makesBlobs(t, "by a delta by name", items(on("h", "hh"), back(1, "hh", "x")), holdingBlobs("h"), "hh", "x")
	makesBlobs(t, "one that makes its base anew", items(blobItem("a"), back(1, "a", "a"), back(1, "a", "a")), nil, "a", "a", "a")
	makesBlobs(t, "an empty base", items(blobItem(""), back(1, "", "x"), back(2, "", "")), nil, "", "x", "")
	far := append(times(3000, blobItem("x")), back(3000, "x", "far"))
	makesBlobs(t, "one 3000 ahead", append(items(blobItem("x")), far[1:]...), nil, append(slices.Repeat([]string{"x"}, 3000), "far")...)
}

func TestBodiesByName(t *testing.T) {
	makesBlobs(t, "a base ahead", items(blobItem("a"), on("a", "ab")), nil, "a", "ab")
	makesBlobs(t, "a base behind", items(on("a", "ab"), blobItem("a")), nil, "ab", "a")
	makesBlobs(t, "bases behind in a row", items(on("abc", "abcd"), on("ab", "abc"), on("a", "ab"), blobItem("a")), nil, "abcd", "abc", "ab", "a")
	makesBlobs(t, "bases ahead in a row", items(blobItem("a"), on("a", "ab"), on("ab", "abc"), on("abc", "abcd")), nil, "a", "ab", "abc", "abcd")
	makesBlobs(t, "some of one base", items(on("a", "x"), blobItem("a"), on("a", "y"), on("a", "x")), nil, "x", "a", "y", "x")
	makesBlobs(t, "a base that is there twice", items(on("a", "x"), blobItem("a"), blobItem("a"), on("a", "y")), nil, "x", "a", "a", "y")
	makesBlobs(t, "a base that is made twice", items(blobItem("b"), back(1, "b", "a"), on("a", "x"), back(3, "b", "a"), on("a", "y")), nil, "b", "a", "x", "a", "y")
	makesBlobs(t, "a base that is made again later", items(blobItem("a"), on("a", "b"), on("b", "a"), on("a", "c"), on("b", "d")), nil, "a", "b", "a", "c", "d")
	makesBlobs(t, "a base by Back behind", items(on("ab", "abc"), blobItem("a"), back(1, "a", "ab")), nil, "abc", "a", "ab")
	makesBlobs(t, "an empty base", items(on("", "x"), blobItem("")), nil, "x", "")
}

// A name is of a kind, too: a blob is no tree's base by the bytes alone.
func TestBodiesByNameOfAnotherKind(t *testing.T) {
	empty, tree := blobThing(""), thingOf(treeOf())
	makes(t, "an empty blob's, an empty tree's", items(tree.item(), empty.item(), empty.on(blobThing("x")), tree.on(thingOf(treeOf("a")))), nil, tree, empty, blobThing("x"), thingOf(treeOf("a")))
	breaks(t, "a tree where a blob is asked for", items(tree.item(), empty.on(blobThing("x"))), nil, api.ErrLink)
	breaks(t, "a blob where a tree is asked for", items(empty.item(), tree.on(thingOf(treeOf("a")))), nil, api.ErrLink)
}

func TestBodiesOfDeltasOfAllKinds(t *testing.T) {
	one, two, none := thingOf(treeOf("f")), thingOf(treeOf("f", "g")), thingOf(treeOf())
	first, second := thingOf(commitOf("first\n")), thingOf(commitOf("second\n"))
	makes(t, "trees", items(one.item(), one.back(1, two), two.on(none), none.on(two), none.back(2, one)), nil, one, two, none, two, one)
	makes(t, "commits", items(first.item(), first.back(1, second), second.on(first)), nil, first, second, first)
	makes(t, "held's", items(one.on(two), first.on(second), one.on(none), blobThing("x").on(blobThing("y"))), holding(first, one, blobThing("x")), two, second, none, blobThing("y"))
	blob := blobThing(one.body)
	makes(t, "a blob of a tree's bytes", items(one.item(), blob.item(), one.back(2, two), blob.back(2, blobThing(two.body))), nil, one, blob, two, blobThing(two.body))
	for n, bad := range []struct {
		base, text thing
		want       api.Errno
	}{
		{one, blobThing("x"), api.ErrForm}, {one, blobThing(two.body[1:]), api.ErrForm}, {one, blobThing(two.body[:60]), api.ErrForm}, {one, first, api.ErrForm}, {one, blobThing(one.body + one.body), api.ErrForm},
		{first, blobThing(""), api.ErrForm}, {first, one, api.ErrForm}, {first, blobThing(first.body + strings.Repeat("n", 100)), api.ErrForm},
		{blobThing("x"), blobThing(strings.Repeat("x", 1001)), api.ErrLimit}, {blobThing("x"), blobThing(strings.Repeat("x", 100_000)), api.ErrLimit},
	} {
		breaks(t, fmt.Sprintf("what may not be of its kind, by Back, %d", n), items(bad.base.item(), bad.base.back(1, bad.text)), nil, bad.want)
		breaks(t, fmt.Sprintf("what may not be of its kind, by name, %d", n), items(bad.base.on(bad.text), bad.base.item()), nil, bad.want)
		breaks(t, fmt.Sprintf("what may not be of its kind, on held's, %d", n), items(bad.base.on(bad.text)), holding(bad.base), bad.want)
	}
	makesBlobs(t, "the longest blob", items(blobItem("x"), back(1, "x", strings.Repeat("y", 1000))), nil, "x", strings.Repeat("y", 1000))
}

// chain is a blob and n deltas by Back, each of the one ahead; what they make.
func chain(n int) (is []pack.Item, texts []string) {
	is, texts = items(blobItem("0")), []string{"0"}
	for k := range n {
		texts = append(texts, fmt.Sprint(k+1))
		is = append(is, back(1, texts[k], texts[k+1]))
	}
	return is, texts
}

// backwards is a blob behind n deltas by name, each of the one behind it.
func backwards(n int) (is []pack.Item, texts []string) {
	is, texts = chain(n)
	for k := 1; k <= n; k++ {
		is[k] = on(texts[k-1], texts[k])
	}
	slices.Reverse(is)
	slices.Reverse(texts)
	return is, texts
}

func TestBodiesOfChains(t *testing.T) {
	for n := range 12 {
		is, texts := chain(n)
		named, namedTexts := backwards(n)
		// On a base that is held a chain is one delta shorter: held's is made in
		// no round.
		leaning, leaningTexts := append(items(on("h", "0")), is[1:]...), texts
		if n <= 4 {
			makesBlobs(t, fmt.Sprintf("a chain of %d by Back", n), is, nil, texts...)
			makesBlobs(t, fmt.Sprintf("a chain of %d by name", n), named, nil, namedTexts...)
		} else {
			breaks(t, fmt.Sprintf("a chain of %d by Back", n), is, nil, api.ErrLimit)
			breaks(t, fmt.Sprintf("a chain of %d by name", n), named, nil, api.ErrLimit)
		}
		if n <= 3 {
			makesBlobs(t, fmt.Sprintf("a chain of %d on held's", n+1), leaning, holdingBlobs("h"), leaningTexts...)
		} else {
			breaks(t, fmt.Sprintf("a chain of %d on held's", n+1), leaning, holdingBlobs("h"), api.ErrLimit)
		}
	}
	is, texts := chain(4)
	makesBlobs(t, "two chains of 4", append(slices.Clone(is), is...), nil, append(slices.Clone(texts), texts...)...)
	makesBlobs(t, "some at the end of a chain of 4", append(slices.Clone(is), back(2, "3", "x"), on("3", "y"), on("4", "5"), blobItem("4")), nil, append(slices.Clone(texts), "x", "y", "5", "4")...)
	breaks(t, "one that is in round 5 beside many that are not", append(append(slices.Clone(is), times(50, blobItem("x"))...), back(51, "4", "5")), nil, api.ErrLimit)
	breaks(t, "one by name in round 5", append(slices.Clone(is), on("4", "5")), nil, api.ErrLimit)
}

// What is there whole is made in round 0, whatever else makes it later; what
// several make has the round of the first.
func TestBodiesOfShorterWays(t *testing.T) {
	is, texts := chain(4)
	makesBlobs(t, "a chain of 5 whose fourth is there whole", append(slices.Clone(is), on("4", "5"), blobItem("4")), nil, append(slices.Clone(texts), "5", "4")...)
	makesBlobs(t, "a chain of 5 whose fourth is made earlier", append(slices.Clone(is), on("4", "5"), on("1", "4")), nil, append(slices.Clone(texts), "5", "4")...)
	makesBlobs(t, "a chain of 5 whose fourth is held", append(slices.Clone(is), on("4", "5")), holdingBlobs("4"), append(slices.Clone(texts), "5")...)
	// By Back it is that one item that counts.
	breaks(t, "a chain of 5 by Back whose fourth is there whole", append(slices.Clone(is), back(1, "4", "5"), blobItem("4")), nil, api.ErrLimit)
	breaks(t, "a chain of 5 by Back whose fourth is held", append(slices.Clone(is), back(1, "4", "5")), holdingBlobs("4"), api.ErrLimit)
}

func TestBodiesThatLeadNowhere(t *testing.T) {
	unknown := on("none", "x")
	for _, x := range []struct {
		name string
		is   []pack.Item
	}{
		{"a base that is no item", items(on("a", "b"))}, {"a base that is no item, among others", items(blobItem("x"), on("a", "b"), back(2, "x", "y"))},
		{"two that lead to one another", items(on("b", "a"), on("a", "b"))}, {"three that lead to one another", items(on("c", "a"), on("a", "b"), on("b", "c"))},
		{"one that leads to itself by name", items(on("a", "a"))}, {"one by Back of one that leads to itself", items(on("a", "a"), back(1, "a", "b"))},
		{"two by name and by Back", items(on("b", "a"), back(1, "a", "b"))}, {"one that leads to one another, and one that is right", items(blobItem("x"), on("b", "a"), on("a", "b"), back(3, "x", "y"))},
		{"a chain on what is not there", items(unknown, back(1, "x", "y"), on("y", "z"), back(1, "z", "q"))},
		{"the name of noughts", items(blobItem("x"), byName(api.Id{}, delta.Make("x", "y")))},
		{"one whose name differs in a bit", items(blobItem("x"), byName(turned(blobThing("x").name(), 31), delta.Make("x", "y")))},
		{"one whose name differs in the first bit", items(blobItem("x"), byName(turned(blobThing("x").name(), 0), delta.Make("x", "y")))},
	} {
		breaks(t, x.name, x.is, nil, api.ErrLink)
		breaks(t, x.name+", held has others", x.is, holdingBlobs("other", "", "xx"), api.ErrLink)
	}
	makesBlobs(t, "two that lead to one another, one held", items(on("b", "a"), on("a", "b")), holdingBlobs("a"), "a", "b")
	makesBlobs(t, "two that lead to one another, both held", items(on("b", "a"), on("a", "b")), holdingBlobs("a", "b"), "a", "b")
	makesBlobs(t, "one that leads to itself, held", items(on("a", "a")), holdingBlobs("a"), "a")
	makesBlobs(t, "three that lead to one another, one of them there whole, too", items(on("c", "a"), on("a", "b"), on("b", "c"), blobItem("b")), nil, "a", "b", "c", "b")
}

// turned is id with a bit of a byte turned.
func turned(id api.Id, at int) api.Id {
	id[at] ^= 1
	return id
}

// An item that is none of the chapter's is made by no round: it is of no kind,
// or has no base. What stands beside what is of a kind is not looked at.
func TestBodiesOfWrongItems(t *testing.T) {
	d := delta.Make("x", "y")
	for _, kind := range noKinds {
		i := pack.Item{Kind: kind, Body: "x"}
		breaks(t, fmt.Sprintf("kind %d", kind), items(i), holdingBlobs("x"), api.ErrLink)
		breaks(t, fmt.Sprintf("kind %d among others", kind), items(blobItem("x"), i, back(2, "x", "y")), nil, api.ErrLink)
		breaks(t, fmt.Sprintf("kind %d, a delta", kind), items(blobItem("x"), pack.Item{Kind: kind, Back: 1, Base: blobThing("x").name(), Body: d}), holdingBlobs("x"), api.ErrLink)
		breaks(t, fmt.Sprintf("a delta of kind %d", kind), items(i, back(1, "x", "y")), nil, api.ErrLink)
	}
	for _, n := range append(noBacks, 2, 3, 4) {
		breaks(t, fmt.Sprintf("Back %d, one ahead", n), items(blobItem("x"), byBack(n, d), blobItem("x"), blobItem("x"), blobItem("x"), blobItem("x")), holdingBlobs("x"), api.ErrLink)
		breaks(t, fmt.Sprintf("Back %d, none ahead", n), items(byBack(n, d), blobItem("x"), blobItem("x"), blobItem("x")), nil, api.ErrLink)
		breaks(t, fmt.Sprintf("Back %d alone", n), items(byBack(n, d)), nil, api.ErrLink)
		breaks(t, fmt.Sprintf("Back %d, with its base's name", n), items(blobItem("x"), pack.Item{Kind: 6, Back: n, Base: blobThing("x").name(), Body: d}), holdingBlobs("x"), api.ErrLink)
		if n != 0 {
			makesBlobs(t, fmt.Sprintf("a blob with Back %d", n), items(blobItem("x"), pack.Item{Kind: 1, Back: n, Base: id(1), Body: "y"}), nil, "x", "y")
			makesBlobs(t, fmt.Sprintf("one by name with Back %d", n), items(blobItem("x"), pack.Item{Kind: 7, Back: n, Base: blobThing("x").name(), Body: d}), nil, "x", "y")
		}
	}
	makesBlobs(t, "one by Back with a Base", items(blobItem("x"), blobItem("z"), pack.Item{Kind: 6, Back: 2, Base: blobThing("z").name(), Body: d}), nil, "x", "z", "y")
	long, _ := delta.Put(1, slices.Repeat([]api.Cut{{Len: 1}}, 1000)...)
	makesBlobs(t, "a delta of many cuts", items(blobItem("x"), byBack(1, long)), nil, "x", strings.Repeat("x", 1000))
}

func TestBodiesOfHeld(t *testing.T) {
	makesBlobs(t, "a base that is held", items(on("h", "x")), holdingBlobs("h"), "x")
	makesBlobs(t, "bases that are held", items(on("h", "x"), on("g", "y"), on("h", "z"), on("z", "q"), back(1, "q", "r")), holdingBlobs("g", "h"), "x", "y", "z", "q", "r")
	makesBlobs(t, "no delta by name", items(blobItem("a"), back(1, "a", "b")), nil, "a", "b")
	breaks(t, "a base that is not held", items(on("h", "x")), holdingBlobs("g"), api.ErrLink)
	breaks(t, "a base, held is nil", items(on("h", "x")), nil, api.ErrLink)
	// What held tells with a false is nothing.
	breaks(t, "a base that held tells and denies", items(on("h", "x")), func(api.Id) (int, string, bool) { return 1, "h", false }, api.ErrLink)
	makesBlobs(t, "a base that held tells and denies, and an item makes later", items(on("h", "x"), blobItem("g"), back(1, "g", "h")), func(api.Id) (int, string, bool) { return 1, "q", false }, "x", "g", "h")
	// Held's base is taken as it is told: of whatever kind, be its name right or not.
	makesBlobs(t, "held's base of another text", items(byName(id(5), delta.Make("q", "x"))), func(api.Id) (int, string, bool) { return 1, "q", true }, "x")
	makesBlobs(t, "held's base of the name of noughts", items(blobItem("a"), byName(api.Id{}, delta.Make("q", "x"))), func(id api.Id) (int, string, bool) { return 1, "q", id == api.Id{} }, "a", "x")
	long := strings.Repeat("long", 25_000)
	makesBlobs(t, "held's base that may not be", items(byName(id(5), delta.Make(long, long[7:900]))), func(api.Id) (int, string, bool) { return 1, long, true }, long[7:900])
	tree := thingOf(treeOf("f"))
	makes(t, "held's base of another kind", items(blobThing("h").on(tree)), lying(blobThing("h"), thing{api.KTree, "h"}), tree)
	for _, kind := range noKinds {
		breaks(t, fmt.Sprintf("held's base of kind %d", kind), items(on("h", "x")), lying(blobThing("h"), thing{kind, "h"}), api.ErrForm)
		breaks(t, fmt.Sprintf("held's base of kind %d, of another length", kind), items(on("h", "x")), lying(blobThing("h"), thing{kind, "hh"}), api.ErrForm)
	}
	breaks(t, "held's base of another length", items(on("h", "x")), lying(blobThing("h"), blobThing("hh")), api.ErrForm)
	breaks(t, "held's base, the delta cut off", items(byName(blobThing("h").name(), "\x01")), holdingBlobs("h"), api.ErrMore)
	breaks(t, "held's base of kind 0, the delta cut off", items(byName(blobThing("h").name(), "\x01")), lying(blobThing("h"), thing{0, "h"}), api.ErrMore)
}

// add is a delta of one byte that puts a text behind it.
func add(s string) string {
	d, _ := delta.Put(1, api.Cut{Len: 1}, api.Cut{Insert: s})
	return d
}

// Of a name that both an item and held have it is the item's that counts, if it
// was made in a round ahead.
func TestBodiesOfANameThatBothHave(t *testing.T) {
	other := lying(blobThing("a"), blobThing("H"))
	name := blobThing("a").name()
	makesBlobs(t, "an item ahead", items(blobItem("a"), byName(name, add("!"))), other, "a", "a!")
	makesBlobs(t, "an item behind", items(byName(name, add("!")), blobItem("a")), other, "a!", "a")
	makesBlobs(t, "held's alone", items(byName(name, add("!"))), other, "H!")
	// The item is made in round 1, as is what leans on held's: none of that name
	// was made ahead of it.
	makesBlobs(t, "an item that is made in the same round", items(blobItem("b"), back(1, "b", "a"), byName(name, add("!"))), other, "b", "a", "H!")
	makesBlobs(t, "an item that is made in the same round, behind", items(byName(name, add("!")), blobItem("b"), back(1, "b", "a")), other, "H!", "b", "a")
	makesBlobs(t, "an item that is made later", items(blobItem("c"), back(1, "c", "b"), back(1, "b", "a"), byName(name, add("!"))), other, "c", "b", "a", "H!")
	makesBlobs(t, "an item that is made later by name", items(on("b", "a"), on("c", "b"), blobItem("c"), byName(name, add("!")), byName(name, add("?"))), other, "a", "b", "c", "H!", "H?")
	// Held's has the shorter way, too.
	is, texts := chain(4)
	is = append(is, on("4", "x"), on("x", "y"))
	makesBlobs(t, "an item that is made in round 4", is, holdingBlobs("4"), append(texts, "x", "y")...)
	breaks(t, "an item that is made in round 4, not held", is, holdingBlobs("5"), api.ErrLimit)
}

// Held is asked for names of bases alone that no item of round 0 has.
func TestBodiesAsksHeld(t *testing.T) {
	is := items(on("a", "x"), blobItem("a"), on("h", "y"), on("none", "z"), back(1, "z", "q"), on("h", "w"), on("b", "v"), back(6, "a", "b"), whole(2, ""), pack.Item{Kind: 6, Back: 10, Base: id(1)}, pack.Item{Kind: 1, Base: id(2)}, pack.Item{Kind: 9, Base: id(3)})
	var asked []api.Id
	held := holdingBlobs("a", "h")
	_, e := pack.Bodies(is, func(id api.Id) (int, string, bool) {
		asked = append(asked, id)
		return held(id)
	})
	may := []api.Id{blobThing("h").name(), blobThing("none").name(), blobThing("b").name()}
	for _, id := range asked {
		if !slices.Contains(may, id) {
			t.Errorf("P0.7, P11.2: held is asked for %x", id)
		}
	}
	for _, id := range may {
		if !slices.Contains(asked, id) {
			t.Errorf("P0.7, P11.2: held is not asked for %x", id)
		}
	}
	if e != api.ErrLink {
		t.Errorf("P11.2: Bodies: %d", e)
	}
	pack.Bodies(items(blobItem("a"), back(1, "a", "b"), on("a", "c")), func(id api.Id) (int, string, bool) {
		t.Errorf("P0.7, P11.2: held is asked for %x", id)
		return 0, "", false
	})
}

// The first error on the way is told: of the earlier round, and in a round of
// the earlier item.
func TestBodiesOfErrors(t *testing.T) {
	form, limit := whole(2, "x"), blobItem(strings.Repeat("x", 1001))
	more, wrong := byBack(1, "\x01"), byBack(1, "\x09\x00")
	x, long := blobItem("x"), back(1, "x", strings.Repeat("y", 1001))
	unknown := on("none", "z")
	for _, c := range []struct {
		name string
		is   []pack.Item
		want api.Errno
	}{
		{"a tree that is none", items(form), api.ErrForm}, {"a commit that is none", items(whole(3, "x")), api.ErrForm}, {"an empty commit", items(whole(3, "")), api.ErrForm},
		{"too long a blob", items(limit), api.ErrLimit}, {"a tree of 1001 bytes", items(whole(2, limit.Body)), api.ErrForm},
		{"a delta of another length", items(x, wrong), api.ErrForm}, {"a delta that is cut off", items(x, more), api.ErrMore}, {"no delta", items(x, byBack(1, "")), api.ErrMore}, {"a delta that makes too much", items(x, long), api.ErrLimit},
		{"two of round 0", items(form, limit), api.ErrForm}, {"two of round 0, turned", items(limit, form), api.ErrLimit}, {"two of round 0, others between", items(x, limit, x, form, x), api.ErrLimit},
		{"two of round 1", items(x, more, x, wrong), api.ErrMore}, {"two of round 1, turned", items(x, wrong, x, more), api.ErrForm}, {"three of round 1", items(x, back(1, "x", "y"), x, long, x, more), api.ErrLimit},
		{"two of round 1, by name and by Back", items(byName(blobThing("x").name(), "\x01"), x, wrong), api.ErrMore}, {"two of round 1, by Back and by name", items(x, wrong, byName(blobThing("x").name(), "\x01")), api.ErrForm},
		{"two of round 1, of bases in turn", items(byName(blobThing("y").name(), "\x01"), byName(blobThing("x").name(), "\x09\x00"), x, blobItem("y")), api.ErrMore},
		{"round 1 ahead of round 0", items(x, more, form), api.ErrForm}, {"round 1 ahead of a round 0 of too much", items(x, more, limit), api.ErrLimit},
		{"round 2 ahead of round 1", items(x, back(1, "x", "y"), more, x, wrong), api.ErrForm}, {"round 2 by name ahead of round 1", items(byName(blobThing("y").name(), "\x01"), x, back(1, "x", "y"), x, long), api.ErrLimit},
		{"one on what could not be made", items(form, more), api.ErrForm}, {"one on what could not be made, by Back", items(x, wrong, more), api.ErrForm},
		{"an error ahead of what leads nowhere", items(unknown, x, wrong), api.ErrForm}, {"an error of round 0 behind what leads nowhere", items(unknown, limit), api.ErrLimit},
		{"an error behind an item that is none", items(pack.Item{}, x, more), api.ErrMore}, {"an item that is none, with no error", items(pack.Item{}, x), api.ErrLink},
	} {
		breaks(t, c.name, c.is, nil, c.want)
	}
	// A delta on held's is of round 1, as those on wholes.
	held := holdingBlobs("h")
	off := byName(blobThing("h").name(), "\x01")
	breaks(t, "held's ahead of a whole's", items(off, x, wrong), held, api.ErrMore)
	breaks(t, "held's behind a whole's", items(x, wrong, off), held, api.ErrForm)
	breaks(t, "held's ahead of round 0", items(off, form), held, api.ErrForm)
	breaks(t, "held's behind round 2", items(x, back(1, "x", "y"), wrong, off), held, api.ErrMore)
}

// Errors of rounds above the fourth are told, too; then what leads nowhere; then
// that there are too many rounds.
func TestBodiesOfErrorsInLateRounds(t *testing.T) {
	for n := range 12 {
		is, texts := chain(n)
		end := texts[n]
		cut := append(slices.Clone(is), byBack(1, "\x01"))
		breaks(t, fmt.Sprintf("an error in round %d", n+1), cut, nil, api.ErrMore)
		breaks(t, fmt.Sprintf("an error in round %d, one that leads nowhere", n+1), append(items(on("none", "z")), cut...), nil, api.ErrMore)
		breaks(t, fmt.Sprintf("two errors in round %d", n+1), append(slices.Clone(is), byName(blobThing(end).name(), delta.Make(end, strings.Repeat("y", 1001))), byName(blobThing(end).name(), "\x01")), nil, api.ErrLimit)
		breaks(t, fmt.Sprintf("errors in rounds %d and %d", n+2, n+1), append(append(items(byName(blobThing("more").name(), "\x01")), is...), back(1, end, "more"), byBack(2, delta.Make("another length", ""))), nil, api.ErrForm)
		breaks(t, fmt.Sprintf("%d rounds, one that leads nowhere", n+1), append(slices.Clone(is), on("none", "z"), back(2, end, "more")), nil, api.ErrLink)
		breaks(t, fmt.Sprintf("%d rounds, an item that is none", n+1), append(slices.Clone(is), pack.Item{}, back(2, end, "more")), nil, api.ErrLink)
	}
}

// slow is Bodies as the chapter's words go: each round looks at all items.
func slow(is []pack.Item, held holds) ([]api.Object, api.Errno) {
	made, round := make([]thing, len(is)), make([]int, len(is))
	found := make([]api.Object, len(is))
	last, left := 0, len(is)
	for n := 0; n <= len(is)+1; n++ {
		for at, i := range is {
			if made[at].kind != 0 {
				continue
			}
			x, ok := thing{i.Kind, i.Body}, n == 0 && 1 <= i.Kind && i.Kind <= 3
			if n > 0 && (i.Kind == 6 || i.Kind == 7) {
				var e api.Errno
				if x, ok = baseOf(is, made, round, at, n, held); ok {
					x.body, e = delta.Apply(x.body, i.Body)
				}
				if e != api.OK {
					return nil, e
				}
			}
			if !ok {
				continue
			}
			var e api.Errno
			if found[at], e = object.Get(x.kind, x.body); e != api.OK {
				return nil, e
			}
			made[at], round[at] = x, n
			last, left = n, left-1
		}
	}
	if left > 0 {
		return nil, api.ErrLink
	}
	if last > 4 {
		return nil, api.ErrLimit
	}
	return found, api.OK
}

// baseOf is the base of the delta at a place, if there is one in round n.
func baseOf(is []pack.Item, made []thing, round []int, at, n int, held holds) (thing, bool) {
	i := is[at]
	for k, x := range made {
		if x.kind == 0 || round[k] >= n {
			continue
		}
		if i.Kind == 6 && k < at && at-k == i.Back || i.Kind == 7 && x.name() == i.Base {
			return x, true
		}
	}
	if i.Kind == 7 && held != nil {
		kind, body, ok := held(i.Base)
		return thing{kind, body}, ok
	}
	return thing{}, false
}

// asSlow asks that Bodies tells what slow does, and tells what that is.
func asSlow(t *testing.T, is []pack.Item, held holds) api.Errno {
	t.Helper()
	want, wantE := slow(is, held)
	got, e := pack.Bodies(is, held)
	if e != wantE || !slices.EqualFunc(got, want, object.Eq) {
		t.Errorf("P11.2: Bodies of %.400v: %.200v, %d, not %.200v, %d", is, got, e, want, wantE)
	}
	return e
}

// coin throws numbers.
type coin uint32

func (c *coin) of(k int) int {
	*c = *c*1664525 + 1013904223
	return int(*c>>8) % k
}

// vocabulary is what the thrown lists are made of: texts of equal lengths, too,
// so that a delta of the one fits the other.
func vocabulary() []thing {
	return []thing{
		blobThing("a"), blobThing("b"), blobThing("ab"), blobThing("ba"), blobThing("abc"), blobThing(""),
		thingOf(treeOf()), thingOf(treeOf("f")), thingOf(treeOf("f", "g")), thingOf(commitOf("")), thingOf(commitOf("n")),
	}
}

// thrown is a list of items that make what is thrown first: most of them right,
// whole or as deltas, ahead and behind, or of what is nowhere in the list.
func thrown(c *coin, all []thing) []pack.Item {
	targets := make([]thing, c.of(9))
	few := 1 + c.of(len(all))
	for at := range targets {
		targets[at] = all[c.of(few)]
	}
	var is []pack.Item
	wholes := 2 + c.of(6)
	for at, x := range targets {
		base := targets[c.of(len(targets))]
		if c.of(4) == 0 {
			base = all[c.of(len(all))]
		}
		i := base.on(x)
		if at > 0 && c.of(2) == 0 {
			n := 1 + c.of(at)
			i = targets[at-n].back(n, x)
		}
		if c.of(wholes) == 0 {
			i = x.item()
		}
		is = append(is, i)
	}
	for len(is) > 0 && c.of(3) == 0 {
		spoil(c, &is[c.of(len(is))])
	}
	return is
}

// spoil turns something about an item.
func spoil(c *coin, i *pack.Item) {
	switch c.of(9) {
	case 0:
		i.Kind = c.of(9)
	case 1:
		i.Back = c.of(5) - 1
	case 2:
		i.Base = turned(i.Base, c.of(32))
	case 3:
		i.Body = i.Body[:c.of(len(i.Body)+1)]
	case 4:
		i.Body += "x"
	case 5:
		i.Body = strings.Repeat("x", 1001)
	case 6:
		i.Body = delta.Make("a", strings.Repeat("y", 1001))
	case 7:
		i.Body = add("!")
	case 8:
		i.Body = ""
	}
}

// thrownHeld holds some things, and lies of some.
func thrownHeld(c *coin, all []thing) holds {
	if c.of(3) == 0 {
		return nil
	}
	answers := map[api.Id]thing{}
	for n := c.of(4); n > 0; n-- {
		x := all[c.of(len(all))]
		answers[x.name()] = x
		if c.of(4) == 0 {
			answers[x.name()] = thing{c.of(8), all[c.of(len(all))].body}
		}
	}
	return func(id api.Id) (int, string, bool) {
		x, ok := answers[id]
		return x.kind, x.body, ok
	}
}

// Thrown lists are made as the chapter's words go; and their packs, too.
func TestBodiesOfThrownLists(t *testing.T) {
	all := vocabulary()
	c := coin(11)
	told := map[api.Errno]int{}
	for range 60_000 {
		is := thrown(&c, all)
		told[asSlow(t, is, thrownHeld(&c, all))]++
		asSlow(t, is, nil)
		if s, ok := pack.Put(is...); ok {
			asObjects(t, s, is)
		}
	}
	for _, e := range []api.Errno{api.OK, api.ErrForm, api.ErrMore, api.ErrLink, api.ErrLimit} {
		if told[e] < 100 {
			t.Errorf("the thrown lists tell %d too seldom: %v", e, told)
		}
	}
}

// Deep lists, in which most are deltas of what stands near.
func TestBodiesOfDeepLists(t *testing.T) {
	c := coin(12)
	told := map[api.Errno]int{}
	for range 4000 {
		var is []pack.Item
		texts := []string{"0"}
		for at := 1; at < 3+c.of(25); at++ {
			texts = append(texts, fmt.Sprint(c.of(15)))
		}
		for at, s := range texts {
			from := max(0, at-1-c.of(5))
			i := back(at-from, texts[from], s)
			if c.of(3) == 0 {
				i = on(texts[c.of(len(texts))], s)
			}
			if at == 0 || c.of(6) == 0 {
				i = blobItem(s)
			}
			is = append(is, i)
		}
		told[asSlow(t, is, nil)]++
		told[asSlow(t, is, holdingBlobs(texts[len(texts)/2]))]++
	}
	for _, e := range []api.Errno{api.OK, api.ErrLink, api.ErrLimit} {
		if told[e] < 100 {
			t.Errorf("the deep lists tell %d too seldom: %v", e, told)
		}
	}
}

// Long lists end in an answer, be they as deep as they are long.
func TestBodiesOfLongLists(t *testing.T) {
	const many = 100_000
	same := delta.Make("x", "x")
	deep := append(items(blobItem("x")), times(many, byBack(1, same))...)
	breaks(t, "a long chain", deep, nil, api.ErrLimit)
	breaks(t, "a long chain with an error at its end", append(slices.Clone(deep), byBack(1, "\x01")), nil, api.ErrMore)
	breaks(t, "a long chain, and one that leads nowhere", append(slices.Clone(deep), on("none", "z")), holdingBlobs("q"), api.ErrLink)
	var wide []pack.Item
	for n := range many {
		wide = append(wide, byBack(n+1, same))
	}
	makesBlobs(t, "many of one", append(items(blobItem("x")), wide...), nil, slices.Repeat([]string{"x"}, many+1)...)
	named := times(many, byName(blobThing("x").name(), same))
	makesBlobs(t, "many of one name", append(named, blobItem("x")), nil, slices.Repeat([]string{"x"}, many+1)...)
	makesBlobs(t, "many of one name that is held", named, holdingBlobs("x"), slices.Repeat([]string{"x"}, many)...)
	breaks(t, "many of one name that is nowhere", named, holdingBlobs("y"), api.ErrLink)
	breaks(t, "many that are none", make([]pack.Item, many), nil, api.ErrLink)
	breaks(t, "many of a wrong Back", times(many, byBack(math.MaxInt, same)), nil, api.ErrLink)
}

// asObjects asks that Objects makes of a pack what Bodies does of its items.
func asObjects(t *testing.T, s string, is []pack.Item) {
	t.Helper()
	want, wantE := pack.Bodies(is, nil)
	got, e := pack.Objects(s)
	if e != wantE || !slices.EqualFunc(got, want, object.Eq) || e != api.OK && got != nil {
		t.Errorf("P11.2: Objects of %.200x: %.200v, %d, not %.200v, %d", s, got, e, want, wantE)
	}
}

func TestObjects(t *testing.T) {
	long, _ := chain(4)
	longer, _ := chain(5)
	behind, _ := backwards(4)
	one, two := thingOf(treeOf("f")), thingOf(treeOf("f", "g"))
	for _, is := range [][]pack.Item{
		nil, itemsOf(objects()), long, longer, behind, items(one.item(), one.back(1, two), one.on(thingOf(treeOf()))), items(one.item(), one.back(1, blobThing("x"))),
		items(on("a", "b")), items(on("a", "b"), on("b", "a")), items(on("a", "b"), blobItem("a")), items(blobItem("a"), byBack(1, "\x01")), items(blobItem(strings.Repeat("x", 1001))), items(whole(2, "x"), blobItem("a")),
		append(longer, on("none", "z")), append(longer, byBack(1, "\x09\x00")), times(mostItems, blobItem("x")), items(whole(3, "x")), items(blobItem("x"), back(1, "x", strings.Repeat("y", 1001))),
	} {
		asObjects(t, plain(is...), is)
	}
	for _, x := range good() {
		asObjects(t, plain(x.is...), x.is)
	}
	s, _ := pack.Of(objects()...)
	if got, e := pack.Objects(s); e != api.OK || !slices.EqualFunc(got, objects(), object.Eq) {
		t.Errorf("P11.2: Objects of what Of tells: %v, %d", got, e)
	}
}

// What is no pack is told as Get tells it.
func TestObjectsOfNoPack(t *testing.T) {
	s, _ := pack.Of(objects()...)
	for at := range s {
		for _, wrong := range []string{s[:at], s[:at] + "~" + s[at+1:], summed(bare(s)[:min(at, len(bare(s)))]), s + s[:at+1]} {
			_, want := pack.Get(wrong)
			if got, e := pack.Objects(wrong); want != api.OK && (e != want || got != nil) {
				t.Errorf("P11.2: Objects of %.80x: %d objects, %d, not %d", wrong, len(got), e, want)
			}
		}
	}
	for wrong, want := range map[string]api.Errno{
		"": api.ErrMore, "x": api.ErrMore, s + "x": api.ErrSum, summed("PACQ\x00"): api.ErrForm, summed("PACK\xc9\x01"): api.ErrLimit, summed("PACK\x01\x60\x01"): api.ErrForm, summed(bare(s) + "x"): api.ErrForm, summed("PACK\x01\x11"): api.ErrMore,
	} {
		if got, e := pack.Objects(wrong); e != want || got != nil {
			t.Errorf("P0.2, P11.2: Objects of %.80x: %d objects, %d, not %d", wrong, len(got), e, want)
		}
	}
}

func TestBodiesLeavesItsList(t *testing.T) {
	one, two := thingOf(treeOf("f")), thingOf(treeOf("f", "g"))
	lists := [][]pack.Item{oneOfEach(), items(on("a", "x"), blobItem("a"), back(1, "a", "b")), items(two.on(one), one.back(1, two), two.item()), items(on("a", "b"), pack.Item{}), items(blobItem("a"), byBack(1, ""))}
	long, _ := chain(20)
	for _, is := range append(lists, long) {
		part, room := spare(is, blobItem("spare"))
		before := slices.Clone(room)
		first, e := pack.Bodies(part, holdingBlobs("a"))
		if !slices.Equal(room, before) {
			t.Errorf("P0.3: Bodies of %.200v changes its list", is)
		}
		shown := fmt.Sprint(first)
		clear(room)
		if again, againE := pack.Bodies(is, holdingBlobs("a")); againE != e || fmt.Sprint(again) != shown || fmt.Sprint(first) != shown {
			t.Errorf("P0.3, P0.5: Bodies of %.200v, again: another one", is)
		}
	}
}

// What is told is the caller's own: whoever writes into it changes no other
// answer, and no other object of this one.
func TestBodiesTellsNewLists(t *testing.T) {
	one := thingOf(treeOf("f", "g"))
	parents := thingOf(api.Object{Kind: api.KCommit, Commit: api.Commit{Parents: []api.Id{id(2), id(3)}}})
	is := items(one.item(), one.item(), one.back(1, one), one.on(one), parents.item(), parents.back(1, parents), parents.item())
	leaning := items(one.on(one), one.on(one), one.back(1, one), parents.on(parents), parents.on(parents))
	s, _ := pack.Put(is...)
	for name, tell := range map[string]func() ([]api.Object, api.Errno){
		"Bodies":          func() ([]api.Object, api.Errno) { return pack.Bodies(is, nil) },
		"Bodies of held":  func() ([]api.Object, api.Errno) { return pack.Bodies(leaning, holding(one, parents)) },
		"Bodies of twice": func() ([]api.Object, api.Errno) { return pack.Bodies(slices.Concat(is, is), nil) },
		"Objects":         func() ([]api.Object, api.Errno) { return pack.Objects(s) },
	} {
		got, e := tell()
		other, _ := tell()
		shown := fmt.Sprint(other)
		for at := range got {
			alone := fmt.Sprint(got[at+1:])
			write(got[at].Entries, api.Entry{Name: "spoilt"})
			write(got[at].Commit.Parents, id(99))
			if fmt.Sprint(got[at+1:]) != alone {
				t.Errorf("P0.3: %s: objects share memory", name)
			}
		}
		write(got, blobOf("spoilt"))
		again, _ := tell()
		if e != api.OK || fmt.Sprint(other) != shown || fmt.Sprint(again) != shown {
			t.Errorf("P0.3: %s: answers share memory, %d", name, e)
		}
	}
}

// write writes over a list and its spare room.
func write[E any](list []E, with E) {
	list = list[:cap(list)]
	for i := range list {
		list[i] = with
	}
}

func ExampleBodies() {
	is := []pack.Item{
		{Kind: api.KBlob, Body: "one long text"},
		{Kind: 6, Back: 1, Body: delta.Make("one long text", "no long text")},
		{Kind: 7, Base: blobThing("held").name(), Body: delta.Make("held", "holds")},
	}
	os, e := pack.Bodies(is, holdingBlobs("held"))
	fmt.Println(os[1].Blob, os[2].Blob, e == api.OK)
	_, e = pack.Bodies(is, nil)
	fmt.Println(e == api.ErrLink)
	// Output:
	// no long text holds true
	// true
}

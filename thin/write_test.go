package thin_test

import (
	"fmt"
	"slices"
	"strings"
	"testing"

	"colporteur/api"
	"colporteur/oid"
	"colporteur/pack"
	"colporteur/thin"
)

// thins asks that Thin writes os as so many items, of which Whole makes them
// again, by rising names and each once; and tells these items.
func thins(t *testing.T, what string, os, held []api.Object) []pack.Item {
	t.Helper()
	s, ok := thin.Thin(os, held)
	is, e := pack.Get(s)
	if !ok || e != api.OK || len(is) != len(os) {
		t.Errorf("P12.1: Thin of %s: %v, %d items of %d, %d", what, ok, len(is), len(os), e)
		return nil
	}
	if got, e := thin.Whole(s, held); e != api.OK || got != plain(wholes(once(os)...)...) {
		t.Errorf("P12.1: Whole of Thin of %s: %d: %.100x", what, e, got)
	}
	if full, _ := pack.Of(os...); len(s) > len(full) {
		t.Errorf("Thin of %s: %d bytes, whole it would be %d", what, len(s), len(full))
	}
	return is
}

// refuses asks that Thin tells nothing of os.
func refuses(t *testing.T, what string, os, held []api.Object) {
	t.Helper()
	if s, ok := thin.Thin(os, held); ok || s != "" {
		t.Errorf("P0.2, P12.1: Thin of %s: %d bytes, %v", what, len(s), ok)
	}
}

// numbered are so many blobs that have a lot in common.
func numbered(n int, tail string) []api.Object {
	var os []api.Object
	for k := range n {
		os = append(os, blob(strings.Repeat("much the same\n", 40)+fmt.Sprint(k)+strings.Repeat("as all others\n", 20)+tail))
	}
	return os
}

// noise are so many blobs that have nothing in common.
func noise(n int) []api.Object {
	var os []api.Object
	for k := range n {
		os = append(os, blob(text(uint32(k)*7919, 600)))
	}
	return os
}

// entries are so many trees that have a lot in common.
func entries(n int) []api.Object {
	var os []api.Object
	for k := range n {
		o := tree("a", "b", "c", "d", "e", "f")
		o.Entries[k%6].Id = id(100 + k)
		os = append(os, o)
	}
	return os
}

// commits are so many that have a lot in common.
func commits(n int) []api.Object {
	var os []api.Object
	for k := range n {
		o := commit("a note\n", id(1), id(2))
		o.Commit.When = float64(k)
		os = append(os, o)
	}
	return os
}

// allHeld are lists that Thin is handed as what is held.
func allHeld() map[string][]api.Object {
	return map[string][]api.Object{
		"nil": nil, "none": {}, "some of all kinds": objects(), "such that may not be": noObjects(), "both": slices.Concat(noObjects(), objects(), noObjects()), "some twice": append(objects(), objects()...),
		"much alike": numbered(30, "held"), "not alike": noise(30), "trees": entries(20), "commits": commits(20),
	}
}

func TestThin(t *testing.T) {
	all := objects()
	mixed := slices.Concat(entries(9), numbered(9, ""), commits(9), noise(9))
	turned := slices.Clone(mixed)
	slices.Reverse(turned)
	for what, os := range map[string][]api.Object{
		"no object": nil, "an empty list": {}, "all kinds": all, "all kinds twice": append(objects(), all...), "much alike": numbered(50, "x"), "not alike": noise(50), "trees": entries(40), "commits": commits(40),
		"mixed": mixed, "turned": turned, "200": numbered(mostItems, ""), "199": noise(mostItems - 1), "200 of all kinds": slices.Repeat(all[:10], 20), "200 of one": slices.Repeat(all[3:4], mostItems), "200 of an empty one": slices.Repeat(all[:1], mostItems),
		"the same bytes of other kinds": {blob(body(all[7])), all[7], all[10], blob(body(all[10])), blob(""), tree(), all[7]},
	} {
		for which, held := range allHeld() {
			thins(t, what+", held: "+which, os, held)
		}
		thins(t, what+", held: the same", os, os)
		thins(t, what+", held: the same, turned", os, mixed)
	}
	for _, o := range all {
		thins(t, "one", []api.Object{o}, nil)
		thins(t, "one that is held", []api.Object{o}, all)
		thins(t, "one twice", []api.Object{o, o}, noObjects())
	}
	if s, ok := thin.Thin(nil, all); !ok || s != summed("PACK\x00") {
		t.Errorf("P0.4, P12.1: Thin of no object: %x, %v", s, ok)
	}
}

func TestThinOfWrong(t *testing.T) {
	for which, held := range allHeld() {
		for n, o := range noObjects() {
			name := fmt.Sprintf("wrong object %d, held: %s", n, which)
			refuses(t, name+", alone", []api.Object{o}, held)
			refuses(t, name+", first", append([]api.Object{o}, objects()...), held)
			refuses(t, name+", last", append(objects(), o), held)
			refuses(t, name+", in the middle", slices.Insert(objects(), 5, o), held)
			refuses(t, name+", twice", []api.Object{blob("x"), o, blob("y"), o}, held)
			refuses(t, name+", the last of 200", append(slices.Repeat(objects()[:1], mostItems-1), o), held)
			refuses(t, name+", that is held, too", []api.Object{o}, append(slices.Clone(held), o))
		}
		refuses(t, "201, held: "+which, numbered(mostItems+1, ""), held)
		refuses(t, "201 of the same, held: "+which, slices.Repeat(blobs("x"), mostItems+1), held)
		refuses(t, "256, held: "+which, slices.Repeat(blobs("x"), 256), held)
		refuses(t, "100,000, held: "+which, slices.Repeat(blobs("x"), 100_000), held)
		refuses(t, "201 that may not be, held: "+which, make([]api.Object, mostItems+1), held)
		refuses(t, "200 that may not be, held: "+which, make([]api.Object, mostItems), held)
	}
}

// lengths are those of the items' bodies.
func lengths(is []pack.Item) []int {
	var found []int
	for _, i := range is {
		found = append(found, len(i.Body))
	}
	return found
}

// What is alike is written as a delta: of what is held, or of an item ahead.
func TestThinWritesDeltas(t *testing.T) {
	const short = 60
	for what, os := range map[string][]api.Object{"blobs": numbered(40, "x"), "trees": entries(40), "commits": commits(40), "one blob": slices.Repeat(noise(1), 40)} {
		is := thins(t, what, os, nil)
		for at, i := range is {
			if at > 0 && (i.Kind != 6 || len(i.Body) > short) || at == 0 && i.Kind != os[0].Kind {
				t.Errorf("Thin of %s: item %d is of Kind %d: %v", what, at, i.Kind, lengths(is))
			}
		}
		is = thins(t, what+", some of them held", os[:1], os[1:])
		if len(is) != 1 || is[0].Kind != 7 || len(is[0].Body) > short {
			t.Errorf("Thin of %s on such as are held: %.100v", what, is)
		}
	}
	// Each is a delta of the one that is held and the most alike.
	held, near := noise(40), noise(40)
	for at := range near {
		near[at].Blob = near[at].Blob[:200] + "!" + near[at].Blob[200:]
	}
	is := thins(t, "what is alike to what is held", near, append(noObjects(), held...))
	for at, i := range is {
		if i.Kind != 7 || i.Base != name(held[at]) || len(i.Body) > short {
			t.Errorf("Thin of what is held: item %d is of Kind %d and Base %x: %v", at, i.Kind, i.Base, lengths(is))
		}
	}
	// A tree is no base of a blob, be their bytes alike.
	lone := entries(1)
	for _, os := range [][]api.Object{{lone[0], blob(body(lone[0]))}, {blob(body(lone[0])), lone[0]}} {
		for at, i := range thins(t, "one body of two kinds", os, os[1:]) {
			if at == 0 && i.Kind != os[0].Kind || at == 1 && i.Kind != 7 {
				t.Errorf("Thin of one body of two kinds: item %d is of Kind %d", at, i.Kind)
			}
		}
	}
}

// Of those that are held the one is the base that has most in common with what
// is written, at both ends, wherever it stands.
func TestThinTakesTheMostAlike(t *testing.T) {
	goal, far := text(7, 900), text(11, 900)
	most := []string{goal[:500] + far[500:], far[:400] + goal[400:], goal[:300] + far[:50] + goal[700:]}
	less := []string{goal[:450] + far[450:], far[:450] + goal[450:], goal[:200] + far + goal[700:], goal[:100], goal[890:], far, ""}
	for n, best := range most {
		held := append(blobs(less...), tree("a"), commit("c"), blob(best), tree(), commit(""))
		for range held {
			held = append(held[1:], held[0])
			if is := thins(t, "one that some are alike to", blobs(goal), held); is[0].Base != name(blob(best)) {
				t.Errorf("Thin of one that some are alike to, %d: Kind %d, Base %x", n, is[0].Kind, is[0].Base)
			}
		}
	}
	// What both ends have in common counts once.
	r := strings.Repeat("r", 100)
	held := blobs(r[:60], r[:90]+far[:500], r[:50])
	if is := thins(t, "one letter", blobs(r), held); is[0].Base != name(held[1]) {
		t.Errorf("Thin of one letter: Kind %d, Base %x", is[0].Kind, is[0].Base)
	}
}

// What is ahead takes fewer bytes to tell than a name that is held.
func TestThinTakesTheShorterWay(t *testing.T) {
	first := noise(1)[0]
	near := blob(first.Blob + "?")
	is := thins(t, "one alike to an item and to what is held", []api.Object{first, near}, []api.Object{blob(first.Blob[:500])})
	if is[0].Kind != 7 || is[1].Kind != 7 {
		t.Errorf("Thin: Kinds %d, %d", is[0].Kind, is[1].Kind)
	}
	is = thins(t, "one alike to an item, more than to what is held", []api.Object{first, near}, []api.Object{blob(first.Blob[:20])})
	if is[0].Kind != 1 || is[1].Kind != 6 {
		t.Errorf("Thin: Kinds %d, %d", is[0].Kind, is[1].Kind)
	}
	two := noise(2)
	half := blob(two[0].Blob[:300] + two[1].Blob[300:])
	is = thins(t, "one alike to an item, as much as to what is held", []api.Object{two[0], half}, two[1:])
	if is[0].Kind != 1 || is[1].Kind != 6 {
		t.Errorf("Thin: Kinds %d, %d", is[0].Kind, is[1].Kind)
	}
	// A delta by name that is no shorter than what it makes is none.
	short := blob(text(3, 45))
	if is = thins(t, "a short one that is held", []api.Object{short, blob("x")}, []api.Object{short, blob("x")}); is[0].Kind != 7 || is[1].Kind != 1 {
		t.Errorf("Thin of short ones: Kinds %d, %d", is[0].Kind, is[1].Kind)
	}
	for size := range 60 {
		o := blob(text(9, size))
		is := thins(t, "a short one, and again", []api.Object{o, o}, nil)
		held := thins(t, "a short one, held", []api.Object{o}, []api.Object{o})
		if (is[1].Kind == 6) != (size > 7) || (held[0].Kind == 7) != (size > 37) {
			t.Errorf("Thin of %d bytes: Kinds %d, %d: %x", size, is[1].Kind, held[0].Kind, is[1].Body)
		}
	}
}

// All that Thin's items lean on is held.
func TestThinNeedsWhatIsHeld(t *testing.T) {
	held := slices.Concat(noObjects(), numbered(20, ""), entries(5))
	os := slices.Concat(numbered(40, "x"), entries(30), commits(5), noise(5))
	needs := thin.Needs(thins(t, "many", os, held))
	for _, id := range needs {
		if !slices.ContainsFunc(held[len(noObjects()):], func(o api.Object) bool { return name(o) == id }) {
			t.Errorf("P12.1: Thin leans on %x, which is not held", id)
		}
	}
	if len(needs) == 0 {
		t.Error("Thin leans on nothing that is held")
	}
	s, _ := thin.Thin(os, held)
	fails(t, "Thin, with nothing held", s, nil, api.ErrLink)
	if whole, e := thin.Whole(s, held); e != api.OK || len(whole) <= len(s) {
		t.Errorf("Whole of Thin: %d bytes of %d, %d", len(whole), len(s), e)
	}
}

// What is alike to one another, and to what is held, in many ways.
func TestThinOfThrownLists(t *testing.T) {
	c := coin(8)
	wrong := noObjects()
	parts := []string{"", "x", text(1, 20), text(2, 100), text(3, 300), strings.Repeat("r", 150), strings.Repeat("ab", 50)}
	one := func() api.Object {
		switch c.of(8) {
		case 0:
			return entries(12)[c.of(12)]
		case 1:
			return commits(12)[c.of(12)]
		case 2:
			return objects()[c.of(14)]
		}
		return blob(parts[c.of(7)] + parts[c.of(7)] + parts[c.of(7)])
	}
	kinds := map[int]int{}
	for n := range 1500 {
		var os, held []api.Object
		for range c.of(12) {
			os = append(os, one())
		}
		for range c.of(12) {
			held = append(held, one())
			if c.of(4) == 0 {
				held = append(held, wrong[c.of(len(wrong))])
			}
		}
		for _, i := range thins(t, fmt.Sprint("thrown list ", n), os, held) {
			kinds[i.Kind]++
		}
	}
	for _, kind := range []int{1, 2, 3, 6, 7} {
		if kinds[kind] < 100 {
			t.Errorf("the thrown lists have too few items of Kind %d: %v", kind, kinds)
		}
	}
}

// Much that is held, and alike, is looked through in little time.
func TestThinOfMuchThatIsHeld(t *testing.T) {
	thins(t, "200, with 20,000 that are much alike", numbered(mostItems, "x"), numbered(20_000, "y"))
	thins(t, "200, with many that may not be", numbered(mostItems, "x"), slices.Repeat(noObjects(), 1000))
}

func TestThinLeavesItsLists(t *testing.T) {
	os, held := slices.Concat(entries(5), commits(5), numbered(5, "")), slices.Concat(noObjects(), entries(3), numbered(3, "y"), commits(3))
	part, room := spare(os, blob("spare"))
	heldPart, heldRoom := spare(held, blob("spare"))
	before, heldBefore := fmt.Sprint(room), fmt.Sprint(heldRoom)
	first, ok := thin.Thin(part, heldPart)
	if fmt.Sprint(room) != before || fmt.Sprint(heldRoom) != heldBefore || !ok {
		t.Errorf("P0.3: Thin changes its lists, or tells %v", ok)
	}
	clear(room)
	clear(heldRoom)
	if again, ok := thin.Thin(os, held); again != first || !ok {
		t.Errorf("P0.3, P0.5: Thin, again: another one, %v", ok)
	}
}

// Both lists may be one.
func TestThinOfOneList(t *testing.T) {
	os := slices.Concat(entries(5), commits(5), numbered(5, ""))
	before := fmt.Sprint(os)
	thins(t, "a list that is held", os, os)
	thins(t, "a part of what is held", os[2:9], os)
	if fmt.Sprint(os) != before {
		t.Error("P0.3: Thin changes its lists")
	}
}

func ExampleThin() {
	held := []api.Object{{Kind: api.KBlob, Blob: "one rather long text, all of which is held already"}}
	s, ok := thin.Thin([]api.Object{{Kind: api.KBlob, Blob: "one rather long text, all of which is held already, and more"}}, held)
	is, _ := pack.Get(s)
	fmt.Println(ok, is[0].Kind, is[0].Base == oid.Of(api.KBlob, held[0].Blob))
	whole, _ := thin.Whole(s, held)
	os, _ := pack.Objects(whole)
	fmt.Println(os[0].Blob)
	// Output:
	// true 7 true
	// one rather long text, all of which is held already, and more
}

package commit_test

import (
	"fmt"
	"math"
	"regexp"
	"slices"
	"strconv"
	"strings"
	"testing"

	"colporteur/api"
	"colporteur/commit"
)

// id is a name of an object, of bytes that hang on n.
func id(n int) api.Id {
	var found api.Id
	for i := range found {
		found[i] = byte(n + i*37)
	}
	return found
}

// ids are the names of those numbers, in their order.
func ids(numbers ...int) []api.Id {
	var found []api.Id
	for _, n := range numbers {
		found = append(found, id(n))
	}
	return found
}

// sample is a commit of two parents, whose note looks like what is ahead of it.
func sample() api.Commit {
	return api.Commit{Tree: id(200), Parents: ids(9, 3), When: -2.5, Note: "one\n\nwhen 3ff8000000000000\n"}
}

// with is the sample, turned.
func with(turn func(c *api.Commit)) api.Commit {
	c := sample()
	turn(&c)
	return c
}

func withTree(id api.Id) api.Commit { return with(func(c *api.Commit) { c.Tree = id }) }

func withParents(ids []api.Id) api.Commit { return with(func(c *api.Commit) { c.Parents = ids }) }

func withWhen(f float64) api.Commit { return with(func(c *api.Commit) { c.When = f }) }

func withNote(s string) api.Commit { return with(func(c *api.Commit) { c.Note = s }) }

var lowNought = math.Copysign(0, -1)

// goodTimes are such that may be, from the least to the largest.
func goodTimes() []float64 {
	return []float64{
		-math.MaxFloat64, -1e300, -1e9, -7, -1.5, -1, -0.1, -math.SmallestNonzeroFloat64, 0, math.SmallestNonzeroFloat64, 2.2250738585072014e-308,
		0.1, 1, 1.5, 7, 1e9, 1731974400.25, 1 << 53, 1e300, math.Nextafter(math.MaxFloat64, 0), math.MaxFloat64,
	}
}

// badTimes are none.
func badTimes() []float64 {
	return []float64{
		lowNought, math.Inf(1), math.Inf(-1), math.NaN(), math.Float64frombits(0x7ff0000000000001), math.Float64frombits(0x7ff8000000000123),
		math.Float64frombits(0xfff8000000000000), math.Float64frombits(math.MaxUint64),
	}
}

// goodNotes are of all lengths and bytes.
func goodNotes() []string {
	found := []string{
		"a", "a note", "\n", "\n\n", "\n\n\n", "a\n", "\na", "a\nb", "a\n\nb\n", "\x00", "a\x00b", "\x00\n\x00", "\r\n", " ", "\t", "ä", "größe\n", "\xff", "\x80\xfe\xff", "\xc3",
		"tree " + strings.Repeat("0", 64) + "\n", "parent " + strings.Repeat("0", 64) + "\n", "parent ", "when ", "when 3ff8000000000000", "when 3ff8000000000000\n", "when 3ff8000000000000\n\nnote",
		strings.Repeat("\n", 100), strings.Repeat("\x00", 100), strings.Repeat("\xff", 100), strings.Repeat("ä", 50),
	}
	for n := range 101 {
		found = append(found, strings.Repeat("n", n))
	}
	for b := range 256 {
		found = append(found, string([]byte{byte(b)}), string([]byte{'a', byte(b), byte(b), 'z'}))
	}
	return found
}

// badNotes are too long.
func badNotes() []string {
	return []string{
		strings.Repeat("n", 101), strings.Repeat("n", 102), strings.Repeat("n", 200), strings.Repeat("\n", 101), strings.Repeat("\x00", 101), strings.Repeat("\xff", 101),
		strings.Repeat("n", 100) + "\n", strings.Repeat("ä", 51), strings.Repeat("n", 256), strings.Repeat("n", 356), strings.Repeat("n", 1<<16), strings.Repeat("n", 1<<20),
	}
}

// goodParents are lists of up to four, each once.
func goodParents() [][]api.Id {
	found := [][]api.Id{
		nil, {}, ids(1), ids(1, 2), ids(2, 1), ids(1, 2, 3), ids(3, 2, 1), ids(2, 3, 1), ids(1, 2, 3, 4), ids(4, 3, 2, 1), ids(3, 1, 4, 2), ids(2, 4, 1, 3),
		{{}}, {{}, {1}}, {{1}, {}}, {{0, 1}, {1}, {}, {31: 1}}, {{31: 1}, {31: 2}}, {{31: 2}, {31: 1}, {30: 1}}, {{1}, {2}, {3}, {4}}, {{255}, {254}, {253}, {252}},
	}
	// A parent may have the name that the tree has: the chapter rules it out not.
	return append(found, ids(200), ids(1, 200))
}

// badParents are too many, or have one twice.
func badParents() [][]api.Id {
	found := [][]api.Id{
		ids(1, 2, 3, 4, 5), ids(5, 4, 3, 2, 1), ids(1, 2, 3, 4, 1), ids(1, 2, 3, 4, 5, 6), ids(1, 2, 3, 4, 5, 6, 7, 8), {{1}, {2}, {3}, {4}, {}},
		make([]api.Id, 2), make([]api.Id, 3), make([]api.Id, 4), make([]api.Id, 5), make([]api.Id, 256), make([]api.Id, 100000), ids(1, 1, 1, 1),
	}
	for n := 2; n <= 4; n++ {
		for one := range n {
			for other := range n {
				if one != other {
					list := ids(4, 2, 3, 1)[:n]
					list[one] = list[other]
					found = append(found, list)
				}
			}
		}
	}
	many := make([]api.Id, 100000)
	for i := range many {
		many[i] = api.Id{byte(i), byte(i >> 8), byte(i >> 16)}
	}
	return append(found, many, many[:257], many[:260])
}

// right are such that may be.
func right() []api.Commit {
	found := []api.Commit{
		{}, sample(), {Note: "first"}, {Tree: id(1), When: 1, Note: "n"}, {Parents: ids(4, 3, 2, 1)}, {Tree: id(9), Parents: ids(9), When: math.MaxFloat64},
		{Tree: id(77), Parents: ids(5, 8, 1, 2), When: -math.MaxFloat64, Note: strings.Repeat("\n", 100)}, withTree(api.Id{}), withTree(api.Id{31: 255}),
	}
	for b := range 256 {
		found = append(found, withTree(id(b)), withParents(ids(b, b+1)))
	}
	for _, list := range goodParents() {
		found = append(found, withParents(list), api.Commit{Parents: list})
	}
	for _, f := range goodTimes() {
		found = append(found, withWhen(f), api.Commit{When: f})
	}
	for _, s := range goodNotes() {
		found = append(found, withNote(s), api.Commit{Note: s})
	}
	return found
}

// wrong are such that may not be, each for one thing alone or for more.
func wrong() []api.Commit {
	found := []api.Commit{{Parents: make([]api.Id, 7), When: math.NaN(), Note: strings.Repeat("x", 500)}, {Parents: ids(1, 1), Note: strings.Repeat("x", 101)}}
	for _, list := range badParents() {
		found = append(found, withParents(list), api.Commit{Parents: list})
	}
	for _, f := range badTimes() {
		found = append(found, withWhen(f), api.Commit{When: f})
	}
	for _, s := range badNotes() {
		found = append(found, withNote(s), api.Commit{Note: s})
	}
	return found
}

// plain is what encodes c, put together anew.
func plain(c api.Commit) string {
	body := fmt.Sprintf("tree %x\n", c.Tree[:])
	for _, id := range c.Parents {
		body += fmt.Sprintf("parent %x\n", id[:])
	}
	return body + fmt.Sprintf("when %016x\n\n", math.Float64bits(c.When)) + c.Note
}

// same tells whether a and b are the same, as numbers of no NaN go.
func same(a, b api.Commit) bool {
	return a.Tree == b.Tree && slices.Equal(a.Parents, b.Parents) && math.Float64bits(a.When) == math.Float64bits(b.When) && a.Note == b.Note
}

func isZero(c api.Commit) bool { return c.Parents == nil && same(c, api.Commit{}) }

func TestMay(t *testing.T) {
	for _, c := range right() {
		if !commit.May(c) {
			t.Errorf("P7.1: May of %v: false", c)
		}
	}
	for _, c := range wrong() {
		if commit.May(c) {
			t.Errorf("P7.1: May of %d parents, %v, a note of %d bytes: true", len(c.Parents), c.When, len(c.Note))
		}
	}
}

func TestPut(t *testing.T) {
	for _, c := range right() {
		if got, ok := commit.Put(c); !ok || got != plain(c) {
			t.Errorf("P7.1: Put of %v: %q, %v, not %q", c, got, ok, plain(c))
		}
	}
	c := api.Commit{Tree: api.Id{0x0a, 0xbc}, Parents: []api.Id{{0xff}, {31: 0x10}}, When: 1.5, Note: "a\n\nb"}
	want := "tree 0abc" + strings.Repeat("0", 60) + "\nparent ff" + strings.Repeat("0", 62) + "\nparent " + strings.Repeat("0", 62) + "10\nwhen 3ff8000000000000\n\na\n\nb"
	if got, ok := commit.Put(c); !ok || got != want {
		t.Errorf("P7.1: Put: %q, %v", got, ok)
	}
	if got, ok := commit.Put(api.Commit{}); !ok || got != "tree "+strings.Repeat("0", 64)+"\nwhen 0000000000000000\n\n" {
		t.Errorf("P7.1: Put of the zero commit: %q, %v", got, ok)
	}
}

func TestPutOfWrong(t *testing.T) {
	for _, c := range wrong() {
		if got, ok := commit.Put(c); got != "" || ok {
			t.Errorf("P0.2, P7.1: Put of %d parents, %v, a note of %d bytes: %.50q, %v", len(c.Parents), c.When, len(c.Note), got, ok)
		}
	}
}

// checkBad holds that body is none that Put tells.
func checkBad(t *testing.T, body string) {
	t.Helper()
	if got, e := commit.Get(body); e != api.ErrForm || !isZero(got) {
		t.Errorf("P0.2, P7.1: Get of %d bytes, %.300q: %v, %d", len(body), body, got, e)
	}
}

// checkGood holds that body is want's.
func checkGood(t *testing.T, body string, want api.Commit) {
	t.Helper()
	if got, e := commit.Get(body); e != api.OK || !same(got, want) {
		t.Errorf("P7.1: Get of %.300q: %v, %d, not %v", body, got, e, want)
	}
}

func TestGet(t *testing.T) {
	for _, c := range right() {
		checkGood(t, plain(c), c)
	}
}

var bodyForm = regexp.MustCompile(`\A(?s:tree ([0-9a-f]{64})\n((?:parent [0-9a-f]{64}\n){0,4})when ([0-9a-f]{16})\n\n(.*))\z`)

// idOf is the name of those digits.
func idOf(digits string) api.Id {
	var found api.Id
	for i := range found {
		b, _ := strconv.ParseUint(digits[2*i:2*i+2], 16, 8)
		found[i] = byte(b)
	}
	return found
}

// slow is what Get is to tell of body, found in another way; false: none.
func slow(body string) (api.Commit, bool) {
	parts := bodyForm.FindStringSubmatch(body)
	if parts == nil || len(parts[4]) > 100 {
		return api.Commit{}, false
	}
	c := api.Commit{Tree: idOf(parts[1]), Note: parts[4]}
	seen := map[string]bool{}
	for _, row := range strings.SplitAfter(parts[2], "\n") {
		if row == "" {
			continue
		}
		if seen[row] {
			return api.Commit{}, false
		}
		seen[row] = true
		c.Parents = append(c.Parents, idOf(row[len("parent "):]))
	}
	bits, err := strconv.ParseUint(parts[3], 16, 64)
	c.When = math.Float64frombits(bits)
	return c, err == nil && bits != 1<<63 && bits&0x7ff0000000000000 != 0x7ff0000000000000
}

// checkSlow holds what Get tells of body against slow; it is whether there is a
// commit.
func checkSlow(t *testing.T, body string) bool {
	t.Helper()
	want, ok := slow(body)
	if !ok {
		checkBad(t, body)
		return false
	}
	checkGood(t, body, want)
	if again, ok := commit.Put(want); !ok || again != body {
		t.Errorf("P7.1: Put of %v: %q, %v, not %q", want, again, ok, body)
	}
	return true
}

// few are commits of each form of head.
func few() []api.Commit {
	return []api.Commit{
		{}, {Note: "n"}, sample(), withNote(""), withParents(nil), withParents(ids(2)), withParents(ids(7, 6, 5, 4)), withWhen(0), withWhen(1e300), withNote(strings.Repeat("n", 99)),
		withNote(strings.Repeat("n", 100)), withNote("\n"), {Tree: id(1), Parents: ids(3, 2, 1), When: 1, Note: strings.Repeat("\n", 100)},
	}
}

// At every place: up to the note there is none, from there on a shorter one.
func TestGetCutOff(t *testing.T) {
	for _, c := range few() {
		body := plain(c)
		head := len(body) - len(c.Note)
		for n := range head {
			checkBad(t, body[:n])
		}
		for n := range len(c.Note) {
			shorter := c
			shorter.Note = c.Note[:n]
			checkGood(t, body[:head+n], shorter)
		}
	}
	checkBad(t, "")
}

func TestGetWithMoreBehind(t *testing.T) {
	for _, c := range few() {
		for b := range 256 {
			longer := c
			longer.Note += string([]byte{byte(b)})
			if len(longer.Note) > 100 {
				checkBad(t, plain(longer))
			} else {
				checkGood(t, plain(longer), longer)
			}
		}
	}
	for _, s := range badNotes() {
		checkBad(t, plain(withNote(s)))
		checkBad(t, plain(api.Commit{Note: s}))
	}
}

// Every byte at every place.
func TestGetOfEachByte(t *testing.T) {
	for _, c := range []api.Commit{{}, sample(), withParents(ids(2)), withWhen(math.MaxFloat64), withWhen(0)} {
		body := []byte(plain(c))
		for place, was := range body {
			for b := range 256 {
				body[place] = byte(b)
				checkSlow(t, string(body))
			}
			body[place] = was
		}
	}
}

// One byte fewer, or more, at every place.
func TestGetOfOneByteFewerOrMore(t *testing.T) {
	for _, c := range few() {
		body := plain(c)
		head := len(body) - len(c.Note)
		for place := range len(body) {
			checkSlow(t, body[:place]+body[place+1:])
			// A note may begin with the newline that the head lacks.
			if place < head-2 {
				checkBad(t, body[:place]+body[place+1:])
			}
			for _, more := range []string{"\n", " ", "0", "a", "\x00", "\r", "\xff", body[place : place+1]} {
				checkSlow(t, body[:place]+more+body[place:])
			}
			checkSlow(t, body[place:])
			for other := range place {
				checkSlow(t, body[:other]+body[place:])
			}
		}
	}
}

// checkRows holds against slow what Get tells of ahead with up to most of rows
// behind it, in all orders; it is how many of these bodies are commits.
func checkRows(t *testing.T, rows []string, ahead string, most int) (good int) {
	if checkSlow(t, ahead) {
		good++
	}
	if most == 0 {
		return good
	}
	for _, row := range rows {
		good += checkRows(t, rows, ahead+row, most-1)
	}
	return good
}

// Lines in any order, missing, twice and more.
func TestGetOfLinesInAnyOrder(t *testing.T) {
	tree, one, other := fmt.Sprintf("tree %x\n", id(1)), fmt.Sprintf("parent %x\n", id(2)), fmt.Sprintf("parent %x\n", id(1))
	if good := checkRows(t, []string{tree, one, other, "when 3ff8000000000000\n", "\n"}, "", 6); good == 0 {
		t.Error("none taken of all lines in all orders")
	}
	third, fourth, fifth := fmt.Sprintf("parent %x\n", id(3)), fmt.Sprintf("parent %x\n", id(4)), fmt.Sprintf("parent %x\n", id(5))
	if good := checkRows(t, []string{one, other, third, fourth, fifth, "when 3ff8000000000000\n\n"}, tree, 6); good == 0 {
		t.Error("none taken of all parents in all orders")
	}
}

func TestGetOfWrongCommits(t *testing.T) {
	for _, c := range wrong() {
		if len(c.Parents) < 300 {
			checkBad(t, plain(c))
		}
	}
	for _, body := range []string{plain(api.Commit{Parents: make([]api.Id, 5000)}), plain(api.Commit{Parents: ids(5, 4, 3, 2, 1)})} {
		checkBad(t, body)
	}
}

// The head's digits are small, and as many as they have to be.
func TestGetOfWrongDigits(t *testing.T) {
	tree, parent, time := strings.Repeat("ab", 32), strings.Repeat("cd", 32), "3ff8000000000000"
	put := func(tree, parent, time string) string {
		return "tree " + tree + "\nparent " + parent + "\nwhen " + time + "\n\nnote"
	}
	if !checkSlow(t, put(tree, parent, time)) {
		t.Error("P7.1: Get of right digits: none")
	}
	for _, turn := range []func(s string) string{
		strings.ToUpper, func(s string) string { return strings.ToUpper(s[:1]) + "A" + s[2:] }, func(s string) string { return s[1:] }, func(s string) string { return s + "0" }, func(s string) string { return "0" + s },
		func(s string) string { return " " + s[1:] }, func(s string) string { return s[1:] + " " }, func(s string) string { return s + " " }, func(s string) string { return " " + s }, func(s string) string { return s + "\r" },
		func(s string) string { return "0x" + s[2:] }, func(s string) string { return "+" + s[1:] }, func(s string) string { return "-" + s[1:] }, func(s string) string { return s[:3] + "_" + s[4:] },
		func(s string) string { return s[:3] + "g" + s[4:] }, func(s string) string { return s[:3] + "." + s[4:] }, func(s string) string { return "" }, func(s string) string { return s + s }, func(s string) string { return s[:len(s)/2] },
		func(s string) string { return s + "\x00" }, func(s string) string { return s[:2] + "\uff10" + s[5:] }, func(s string) string { return s[:4] + "\n" + s[5:] }, func(s string) string { return strings.Repeat(s, 1<<16) },
	} {
		checkBad(t, put(turn(tree), parent, time))
		checkBad(t, put(tree, turn(parent), time))
		checkBad(t, put(tree, parent, turn(time)))
	}
	for _, f := range badTimes() {
		checkBad(t, put(tree, parent, fmt.Sprintf("%016x", math.Float64bits(f))))
	}
	for _, bits := range []string{"8000000000000000", "7ff0000000000000", "fff0000000000000", "7ff8000000000001", "7ff8000000000000", "fff8000000000001", "7fffffffffffffff", "ffffffffffffffff"} {
		checkBad(t, put(tree, parent, bits))
	}
	for _, bits := range []string{"0000000000000000", "0000000000000001", "8000000000000001", "7fefffffffffffff", "ffefffffffffffff"} {
		if !checkSlow(t, put(tree, parent, bits)) {
			t.Errorf("P7.1: Get of the time %s: none", bits)
		}
	}
}

func TestGetOfWrongBytes(t *testing.T) {
	digits := strings.Repeat("0", 64)
	tree, parent, time := "tree "+digits+"\n", "parent "+digits+"\n", "when 0000000000000000\n"
	for _, body := range []string{
		"\n", "\n\n", "tree", "tree ", "tree \n", "tree\n", tree, tree + "\n", tree + "\n\n", tree + parent, tree + parent + "\n", tree + time, time, time + "\n", parent, parent + time + "\n",
		tree + "parent\n" + time + "\n", tree + "parent \n" + time + "\n", tree + "when \n\n", tree + "when\n\n", tree + "when 1.5\n\n", tree + "when 0\n\n", "tree 0\n" + time + "\n",
		"Tree " + digits + "\n" + time + "\n", "tree  " + digits + "\n" + time + "\n", " " + tree + time + "\n", "tree\t" + digits + "\n" + time + "\n", "tree" + digits + "\n" + time + "\n",
		tree + "Parent " + digits + "\n" + time + "\n", tree + "parents " + digits + "\n" + time + "\n", tree + "parent" + digits + "\n" + time + "\n", tree + "When 0000000000000000\n\n", tree + "when  0000000000000000\n\n",
		digits + "\n" + time + "\n", tree + digits + "\n" + time + "\n", tree + "0000000000000000\n\n", "tree " + digits + "\r\n" + time + "\n", tree + time + "\r\n", tree + time + " \n", tree + time + "note", tree + time + "note\n",
		tree + time + "\x00\n", tree + "\n" + time + "\n", "\n" + tree + time + "\n", tree + parent + "\n" + time + "\n", tree + tree + time + "\n", tree + time + time + "\n", tree + time + parent + "\n", tree + parent + parent + time + "\n",
		"author me\n" + tree + time + "\n", tree + "author me\n" + time + "\n", tree + time + "author me\n\n", strings.Repeat("x", 1<<20), "tree " + strings.Repeat("0", 1<<20) + "\n" + time + "\n", strings.Repeat("\n", 1<<20),
		strings.Repeat("\x00", 1<<20), strings.Repeat(tree, 1<<14), tree + strings.Repeat(parent, 1<<14), tree + time + "\n" + strings.Repeat("\n", 1<<20), "commit " + digits + "\n" + time + "\n",
	} {
		checkBad(t, body)
	}
}

// Bodies that are spoilt here and there, by a rule that is the same each time.
func TestGetOfSpoiltBodies(t *testing.T) {
	const bodies = 60000
	state := uint32(1)
	next := func(n int) int {
		state = state*1664525 + 1013904223
		return int(state>>8) % n
	}
	taken := 0
	for range bodies {
		body := []byte(plain(few()[next(len(few()))]))
		for range next(3) {
			body[next(len(body))] = "0a9f \n\x00Agwpt"[next(12)]
		}
		if checkSlow(t, string(body)) {
			taken++
		}
	}
	if taken == 0 || taken == bodies {
		t.Errorf("%d of %d bodies taken", taken, bodies)
	}
}

// differ are commits of which no two are the same.
func differ() []api.Commit {
	found := []api.Commit{sample(), {}}
	for _, tree := range []api.Id{{}, {1}, {31: 1}, id(201)} {
		found = append(found, withTree(tree))
	}
	for _, list := range [][]api.Id{
		nil, ids(9), ids(3), ids(3, 9), ids(9, 4), ids(8, 3), ids(9, 3, 1), ids(9, 3, 3), ids(9, 9), ids(1, 9, 3), {{}}, {{}, {}}, append(ids(9, 3), api.Id{}), ids(1, 2, 3, 4, 5, 6, 7), ids(1, 2, 3, 4, 5, 6, 8), make([]api.Id, 1000), make([]api.Id, 1001),
	} {
		found = append(found, withParents(list))
	}
	for _, f := range append(goodTimes(), lowNought, math.NaN(), math.Inf(1), math.Inf(-1), math.Nextafter(-2.5, 0)) {
		found = append(found, withWhen(f))
	}
	for _, s := range []string{
		"", "\n", "\x00", "one\n\nwhen 3ff8000000000000", "one\n\nwhen 3ff8000000000000\n\n", "One\n\nwhen 3ff8000000000000\n", "one\n\nwhen 3ff8000000000000\x00", "\xff", "\xfe", "\ufffd", "e\u0301", "\u00e9",
		strings.Repeat("n", 101), strings.Repeat("n", 102), strings.Repeat("n", 1<<16), strings.Repeat("n", 1<<16-1) + "o",
	} {
		found = append(found, withNote(s))
	}
	return found
}

// again is c, in memory of its own.
func again(c api.Commit) api.Commit {
	c.Parents = slices.Clone(c.Parents)
	c.Note = strings.Clone(c.Note)
	return c
}

func TestEq(t *testing.T) {
	all := differ()
	for i, a := range all {
		for j, b := range all {
			if got := commit.Eq(a, again(b)); got != (i == j) {
				t.Errorf("P7.1: Eq of %.300q and %.300q: %v", fmt.Sprint(a), fmt.Sprint(b), got)
			}
		}
	}
	for _, c := range append(right(), wrong()...) {
		if !commit.Eq(c, again(c)) {
			t.Errorf("P7.1: Eq of %.300q and itself: false", fmt.Sprint(c))
		}
	}
}

func TestEqOfTimesByTheirBits(t *testing.T) {
	for _, one := range badTimes() {
		for _, other := range badTimes() {
			want := one != one && other != other || math.Float64bits(one) == math.Float64bits(other)
			if got := commit.Eq(withWhen(one), withWhen(other)); got != want {
				t.Errorf("P7.1: Eq of the times %x and %x: %v", math.Float64bits(one), math.Float64bits(other), got)
			}
		}
	}
	if commit.Eq(withWhen(0), withWhen(lowNought)) || commit.Eq(api.Commit{When: lowNought}, api.Commit{}) {
		t.Error("P7.1: Eq of the times 0 and -0: true")
	}
}

func TestNilIsAsEmpty(t *testing.T) {
	none, empty := withParents(nil), withParents([]api.Id{})
	if !commit.Eq(none, empty) || !commit.Eq(empty, none) || !commit.May(none) || !commit.May(empty) {
		t.Error("P0.4, P7.1: Eq or May of no parents: false")
	}
	one, _ := commit.Put(none)
	if other, ok := commit.Put(empty); one != other || !ok {
		t.Errorf("P0.4, P7.1: Put of no parents: %q, %q", one, other)
	}
}

// A list that is handed in keeps what it holds, in its spare room too.
func TestWhatIsHandedInIsNotChanged(t *testing.T) {
	for _, list := range [][]api.Id{ids(4, 3, 2, 1), ids(2, 2, 1, 9, 9), ids(9, 8, 7, 6, 5, 4)} {
		for n := range len(list) + 1 {
			held := slices.Clone(list)
			c := withParents(list[:n])
			commit.May(c)
			commit.Put(c)
			commit.Eq(c, c)
			commit.Eq(c, sample())
			if !slices.Equal(list, held) {
				t.Fatalf("P0.3: %d parents handed in: %v, was %v", n, list, held)
			}
		}
	}
}

func TestWhatIsHandedOutIsNew(t *testing.T) {
	want := withParents(ids(7, 5, 6))
	body := plain(want)
	first, _ := commit.Get(body)
	second, _ := commit.Get(body)
	spare := first.Parents[:cap(first.Parents)]
	for i := range spare {
		spare[i] = id(99)
	}
	third, _ := commit.Get(body)
	if !same(second, want) || !same(third, want) {
		t.Errorf("P0.3, P0.5: Get, behind writing into its answer: %v, %v", second, third)
	}
}

func ExamplePut() {
	var tree api.Id
	s, ok := commit.Put(api.Commit{Tree: tree, When: 1.5, Note: "first\n"})
	fmt.Printf("%s%v\n", s, ok)
	// Output:
	// tree 0000000000000000000000000000000000000000000000000000000000000000
	// when 3ff8000000000000
	//
	// first
	// true
}

func ExampleGet() {
	body, _ := commit.Put(api.Commit{Parents: []api.Id{{1}, {2}}, When: -7, Note: "merge\n"})
	c, e := commit.Get(body)
	fmt.Printf("%d %v %q %v\n", len(c.Parents), c.When, c.Note, e == api.OK)
	_, e = commit.Get(body[1:])
	fmt.Println(e == api.ErrForm)
	// Output:
	// 2 -7 "merge\n" true
	// true
}

func ExampleEq() {
	a := api.Commit{Note: "n"}
	b := api.Commit{Note: "n", Parents: []api.Id{}}
	fmt.Println(commit.Eq(a, b))
	b.When = math.Copysign(0, -1)
	fmt.Println(commit.Eq(a, b))
	// Output:
	// true
	// false
}

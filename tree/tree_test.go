package tree_test

import (
	"bytes"
	"fmt"
	"regexp"
	"slices"
	"strings"
	"testing"

	"colporteur/api"
	"colporteur/tree"
)

// signs are all that may stand in a name, rising.
const signs = "-.0123456789_abcdefghijklmnopqrstuvwxyz"

// id is a name of an object, of bytes that hang on n.
func id(n int) api.Id {
	var found api.Id
	for i := range found {
		found[i] = byte(n + i*37)
	}
	return found
}

// full is an id of one byte over and over.
func full(b byte) api.Id { return api.Id(bytes.Repeat([]byte{b}, 32)) }

func file(name string, id api.Id) api.Entry { return api.Entry{Name: name, Id: id} }

func dir(name string, id api.Id) api.Entry { return api.Entry{Name: name, Tree: true, Id: id} }

// files are entries of those names, in their order.
func files(names ...string) []api.Entry {
	var es []api.Entry
	for i, name := range names {
		es = append(es, file(name, id(i)))
	}
	return es
}

// many are n entries that rise, files and trees in turn, of names of all
// lengths.
func many(n int) []api.Entry {
	var es []api.Entry
	for i := range n {
		name := string([]byte{'a' + byte(i)}) + strings.Repeat("z", i%20)
		es = append(es, api.Entry{Name: name, Tree: i%2 == 1, Id: id(i)})
	}
	return es
}

// goodNames are of all lengths and signs.
func goodNames() []string {
	found := []string{
		"...", "....", ".a", "..a", "a.", "a..", "a..b", ".-", "..-", "-..", "._.", ".0", "0.", "-", "--", "_", "__", "-.-",
		"a.b-c_d", "0", "007", "readme.txt", ".profile", "abcdefghijklmnopqrst", "uvwxyz0123456789.-_a",
	}
	for n := 1; n <= 20; n++ {
		found = append(found, strings.Repeat("z", n), strings.Repeat("9", n), strings.Repeat(".", n-1)+"-", "_"+strings.Repeat(".", n-1))
		if n > 2 {
			found = append(found, strings.Repeat(".", n))
		}
	}
	return found
}

// badNames are no names, each for a reason of its own.
func badNames() []string {
	found := []string{
		"", ".", "..", "A", "Z", "aB", "Ba", "README", "/", "a/", "/a", "a/b", "./a", "../a", "\x00", "a\x00", "\x00a", "a\x00b",
		" ", " a", "a ", "a b", "\n", "a\n", "a\t", "a\\b", "a+b", "a,b", "a:b", "a@b", "a`b", "a{b", "~", "*", "a\x7f",
		"\x80", "\xff", "a\xff", "\xc3", "ä", "größe", "é", "e\u0301", "\u0660", "\uff41", "a\u200b", "\u2024", "\ufeffa",
		strings.Repeat("ä", 10),
	}
	for _, n := range []int{21, 22, 40, 255, 256, 276, 1 << 16, 1 << 20} {
		found = append(found, strings.Repeat("z", n), strings.Repeat(".", n))
	}
	return found
}

func TestName(t *testing.T) {
	for _, s := range goodNames() {
		if !tree.Name(s) {
			t.Errorf("P6.1: Name of %q: false", s)
		}
	}
	for _, s := range badNames() {
		if tree.Name(s) {
			t.Errorf("P6.1: Name of %d bytes, %.30q: true", len(s), s)
		}
	}
}

// Every byte alone, and at every place of names of each length.
func TestNameOfEachByte(t *testing.T) {
	for b := range 256 {
		right := strings.IndexByte(signs, byte(b)) >= 0
		if got, want := tree.Name(string([]byte{byte(b)})), right && b != '.'; got != want {
			t.Errorf("P6.1: Name of the byte %d alone: %v", b, got)
		}
		for n := 1; n <= 22; n++ {
			for place := range n {
				s := bytes.Repeat([]byte{'x'}, n)
				s[place] = byte(b)
				want := right && n <= 20 && string(s) != "."
				if got := tree.Name(string(s)); got != want {
					t.Errorf("P6.1: Name of %q: %v", s, got)
				}
			}
		}
	}
}

func TestMay(t *testing.T) {
	for n := range 21 {
		if !tree.May(many(n)) {
			t.Errorf("P6.1: May of %d entries that rise: false", n)
		}
	}
	if !tree.May(nil) || !tree.May([]api.Entry{}) {
		t.Error("P0.4, P6.1: May of none: false")
	}
	for _, name := range goodNames() {
		if !tree.May(files(name)) || !tree.May([]api.Entry{dir(name, full(255))}) {
			t.Errorf("P6.1: May of %q alone: false", name)
		}
	}
	for k, es := range wrong() {
		if tree.May(es) {
			t.Errorf("P6.1, %d: May of %.200q: true", k, fmt.Sprint(es))
		}
	}
}

// wrong are lists that may be no tree's.
func wrong() [][]api.Entry {
	found := [][]api.Entry{
		files("b", "a"), files("a", "c", "b"), files("c", "a", "b"), files("b", "a", "c"), files("ab", "a"), files("a0", "a-"), files("a", "_"), files("a", "9"), files("0", ".a"),
		files("a", "a"), files("a", "b", "b"), files("a", "b", "a"), {dir("a", id(1)), dir("a", id(1))},
		{file("a", id(1)), dir("a", id(1))}, {dir("a", id(1)), file("a", id(1))}, {file("a", id(1)), dir("a", id(2))}, {dir("a", id(2)), file("a", id(1))},
		{dir("b", id(1)), file("a", id(2))}, {file("b", id(1)), dir("a", id(2))}, {file("a.b", id(1)), dir("a", id(2))},
		many(21), many(22), many(26), make([]api.Entry, 1), make([]api.Entry, 20), make([]api.Entry, 1000),
		append(many(20), file("a", id(1))), append(many(20), api.Entry{}), append(many(20), many(20)...), slices.Repeat(many(2), 500),
	}
	backward := many(20)
	slices.Reverse(backward)
	found = append(found, backward)
	for _, bad := range badNames() {
		found = append(found, files(bad), files("-", bad, "zzz"), []api.Entry{dir(bad, id(1))}, append(many(5), dir(bad, id(1))))
		first := many(20)
		first[0].Name = bad
		last := many(20)
		last[19].Name = bad
		found = append(found, first, last)
	}
	for i := range 20 {
		twice := many(20)
		twice[i] = twice[(i+1)%20]
		found = append(found, twice)
	}
	return found
}

// Each two names: they may be a tree's, in that order, if the first is less by
// its bytes, whatever the kinds.
func TestMayOfEachTwo(t *testing.T) {
	names := append(goodNames(), "a", "a-", "a.", "a.b", "a.b-", "a0", "a_", "aa", "ab", "z", "9", "-a")
	for _, one := range names {
		for _, other := range names {
			for kinds := range 4 {
				es := []api.Entry{{Name: one, Tree: kinds&1 > 0, Id: id(1)}, {Name: other, Tree: kinds&2 > 0, Id: id(2)}}
				if got, want := tree.May(es), bytes.Compare([]byte(one), []byte(other)) < 0; got != want {
					t.Errorf("P6.1: May of %q, %q, kinds %d: %v", one, other, kinds, got)
				}
			}
		}
	}
}

// The ids do not matter: neither their order, nor whether one stands there twice.
func TestMayOfAnyIds(t *testing.T) {
	for _, two := range [][2]api.Id{{}, {id(1), id(1)}, {full(255), {}}, {{}, full(255)}} {
		if !tree.May([]api.Entry{file("a", two[0]), dir("b", two[1])}) {
			t.Errorf("P6.1: May of the ids %x: false", two)
		}
	}
}

// plain is what encodes es, put together anew.
func plain(es []api.Entry) string {
	body := ""
	for _, e := range es {
		mark := "f"
		if e.Tree {
			mark = "d"
		}
		body += fmt.Sprintf("%s %s\x00%s", mark, e.Name, string(e.Id[:]))
	}
	return body
}

// right are lists that may be a tree's.
func right() [][]api.Entry {
	found := [][]api.Entry{
		nil, {}, files("a"), {dir("a", id(7))}, files("a", "b"), {file("a", id(1)), dir("b", id(1))}, {dir("a", id(1)), file("b", id(1))},
		{dir("a", id(1)), file("a.b", id(2)), dir("a0", id(3)), file("aa", id(4))}, {file("-", id(1)), file("...", id(2)), dir("0", id(3)), dir("_", id(4)), file("a", id(5))},
		{file("d", id(1)), dir("f", id(2))}, {dir("d", full('d')), file("f", full('f'))}, files("d.f", "f.d"), files(strings.Repeat("y", 20), strings.Repeat("z", 20)),
	}
	for b := range 256 {
		found = append(found, []api.Entry{file("a", full(byte(b))), dir("b", id(b)), file("c", full(byte(255-b)))})
	}
	for n := range 21 {
		found = append(found, many(n))
	}
	for _, name := range goodNames() {
		found = append(found, files(name), []api.Entry{dir(name, full('\n'))})
	}
	return found
}

func TestPut(t *testing.T) {
	for _, es := range right() {
		got, ok := tree.Put(es)
		if want := plain(es); !ok || got != want {
			t.Errorf("P6.1: Put of %v: %q, %v, not %q", es, got, ok, want)
		}
	}
	if got, ok := tree.Put([]api.Entry{file("a", api.Id{10, 0, 255}), dir("b.c", full('0'))}); !ok ||
		got != "f a\x00\x0a\x00\xff"+strings.Repeat("\x00", 29)+"d b.c\x00"+strings.Repeat("0", 32) {
		t.Errorf("P6.1: Put: %q, %v", got, ok)
	}
}

func TestPutOfWrong(t *testing.T) {
	for k, es := range wrong() {
		if got, ok := tree.Put(es); got != "" || ok {
			t.Errorf("P0.2, P6.1, %d: Put of %.200q: %.50q, %v", k, fmt.Sprint(es), got, ok)
		}
	}
}

// checkBad holds that body is none that Put tells.
func checkBad(t *testing.T, body string) {
	t.Helper()
	if got, e := tree.Get(body); e != api.ErrForm || got != nil {
		t.Errorf("P0.2, P6.1: Get of %d bytes, %.60q: %v, %d", len(body), body, got, e)
	}
}

func TestGet(t *testing.T) {
	for _, es := range right() {
		got, e := tree.Get(plain(es))
		if e != api.OK || !slices.Equal(got, es) {
			t.Errorf("P6.1: Get of %q: %v, %d, not %v", plain(es), got, e, es)
		}
	}
}

// At every place but the ends of entries.
func TestGetCutOff(t *testing.T) {
	for _, es := range right() {
		body := plain(es)
		whole := map[int][]api.Entry{}
		for n := range len(es) {
			whole[len(plain(es[:n]))] = es[:n]
		}
		for n := range len(body) {
			want, ends := whole[n]
			if !ends {
				checkBad(t, body[:n])
				continue
			}
			if got, e := tree.Get(body[:n]); e != api.OK || !slices.Equal(got, want) {
				t.Errorf("P6.1: Get of %q: %v, %d", body[:n], got, e)
			}
		}
	}
}

func TestGetWithMoreBehind(t *testing.T) {
	for _, es := range right() {
		body := plain(es)
		for b := range 256 {
			checkBad(t, body+string([]byte{byte(b)}))
		}
		checkBad(t, body+"f ")
		checkBad(t, body+"f zzzz")
		checkBad(t, body+"f zzzz\x00")
		checkBad(t, body+"f zzzz\x00"+strings.Repeat("x", 31))
	}
}

var nameForm = regexp.MustCompile(`^[-a-z0-9._]{1,20}$`)

// slow is what Get is to tell of body, found in another way; false: none.
func slow(body string) ([]api.Entry, bool) {
	var es []api.Entry
	for body != "" {
		head, tail, ok := strings.Cut(body, "\x00")
		mark, name, _ := strings.Cut(head, " ")
		if !ok || len(tail) < 32 || mark != "d" && mark != "f" || !nameForm.MatchString(name) || name == "." || name == ".." {
			return nil, false
		}
		if len(es) > 0 && strings.Compare(es[len(es)-1].Name, name) >= 0 {
			return nil, false
		}
		es = append(es, api.Entry{Name: name, Tree: mark == "d", Id: api.Id([]byte(tail[:32]))})
		body = tail[32:]
	}
	return es, len(es) <= 20
}

// checkSlow holds what Get tells of body against slow; it is whether there are
// entries.
func checkSlow(t *testing.T, body string) bool {
	t.Helper()
	want, ok := slow(body)
	if !ok {
		checkBad(t, body)
		return false
	}
	if got, e := tree.Get(body); e != api.OK || !slices.Equal(got, want) {
		t.Errorf("P6.1: Get of %d bytes, %.60q: %v, %d, not %v", len(body), body, got, e, want)
	}
	if again, ok := tree.Put(want); !ok || again != body {
		t.Errorf("P6.1: Put of %v: %q, %v, not %q", want, again, ok, body)
	}
	return true
}

// Every byte at every place, of files and trees, alone and among others.
func TestGetOfEachByte(t *testing.T) {
	for _, es := range [][]api.Entry{
		files("m"), files("mno"), {dir("m", full(0))}, {file("b.", full('\n')), dir("mno", full(' '))}, many(3), many(20)[15:],
	} {
		body := []byte(plain(es))
		for place, was := range body {
			for b := range 256 {
				body[place] = byte(b)
				checkSlow(t, string(body))
			}
			body[place] = was
		}
	}
}

func TestGetOfWrongEntries(t *testing.T) {
	for _, es := range wrong() {
		checkBad(t, plain(es))
	}
}

func TestGetOfWrongBytes(t *testing.T) {
	a, tail := plain(files("a")), strings.Repeat("x", 32)
	for _, body := range []string{
		" ", "\x00", "f", "d", "f ", "d ", "f a", "f a\x00", tail, "f a" + tail, "fa\x00" + tail, "f  a\x00" + tail, " f a\x00" + tail, "f a \x00" + tail,
		"F a\x00" + tail, "D a\x00" + tail, "t a\x00" + tail, "b a\x00" + tail, "g a\x00" + tail, "e a\x00" + tail, "\x00 a\x00" + tail, "ff a\x00" + tail, "fd a\x00" + tail,
		"f\ta\x00" + tail, "f\x00a\x00" + tail, "f\na\x00" + tail, "f a\x00\x00" + tail, "f a\n" + tail, "f \x00" + tail, "f a/b\x00" + tail,
		"100644 a\x00" + tail, "40000 a\x00" + tail, "f a\x00" + tail + "\n", a + "\n" + plain(files("b")), a + " " + plain(files("b")), a + a, a + "\x00" + plain(files("b")),
		"f " + strings.Repeat("a", 1000), "f " + strings.Repeat("a", 1<<20) + "\x00" + tail, strings.Repeat("f ", 1000), strings.Repeat("\x00", 1<<20), strings.Repeat(a, 1<<15),
	} {
		checkBad(t, body)
	}
}

// Bodies that are spoilt here and there, by a rule that is the same each time.
func TestGetOfSpoiltBodies(t *testing.T) {
	const bodies = 60000
	state := uint32(1)
	next := func(n int) int {
		state = state*1664525 + 1013904223
		return int(state>>8) % n
	}
	taken := 0
	for range bodies {
		body := []byte(plain(many(1 + next(4))))
		for range next(3) {
			body[next(len(body))] = "dfabz. -\x00\nA/"[next(12)]
		}
		if checkSlow(t, string(body)) {
			taken++
		}
	}
	if taken == 0 || taken == bodies {
		t.Errorf("%d of %d bodies taken", taken, bodies)
	}
}

func TestFind(t *testing.T) {
	for _, es := range right() {
		for _, want := range es {
			if got, ok := tree.Find(es, want.Name); !ok || got != want {
				t.Errorf("P6.1: Find of %q in %v: %v, %v", want.Name, es, got, ok)
			}
		}
	}
}

func TestFindOfNone(t *testing.T) {
	for _, es := range [][]api.Entry{nil, {}, files("b"), files("b", "d", "f"), {dir("bb", id(1)), file("c", id(2))}, many(20)[1:]} {
		for _, name := range append(badNames(), "a", "bz0", "c0", "0", "zz", "-", "...") {
			if got, ok := tree.Find(es, name); ok || got != (api.Entry{}) {
				t.Errorf("P0.2, P6.1: Find of %.30q in %v: %v, %v", name, es, got, ok)
			}
		}
	}
}

// Of entries in any order, of one name twice: the first.
func TestFindOfTheFirst(t *testing.T) {
	es := []api.Entry{file("c", id(1)), file("b", id(2)), dir("b", id(3)), dir("a", id(4)), file("b", id(2)), file("a", id(5)), dir("c", id(6))}
	for name, place := range map[string]int{"c": 0, "b": 1, "a": 3} {
		if got, ok := tree.Find(es, name); !ok || got != es[place] {
			t.Errorf("P6.1: Find of %q: %v, %v, not %v", name, got, ok, es[place])
		}
	}
	long := append(slices.Repeat(many(20), 5000), file("zzz", id(99)), dir("zzz", id(98)))
	if got, ok := tree.Find(long, "zzz"); !ok || got != file("zzz", id(99)) {
		t.Errorf("P6.1: Find in many: %v, %v", got, ok)
	}
}

// paths are right ones, and their parts.
func paths() map[string][]string {
	found := map[string][]string{
		"": nil, "a": {"a"}, "a/b": {"a", "b"}, "a/b/c": {"a", "b", "c"}, "b/a": {"b", "a"}, "a/a/a": {"a", "a", "a"},
		".../a": {"...", "a"}, "a/...": {"a", "..."}, ".a/..b/c.": {".a", "..b", "c."}, "-/_/0": {"-", "_", "0"}, "src/main.go": {"src", "main.go"},
	}
	for _, name := range goodNames() {
		found[name] = []string{name}
		found["a/"+name] = []string{"a", name}
		found[name+"/a"] = []string{name, "a"}
		found[name+"/"+name] = []string{name, name}
	}
	all := goodNames()
	found[strings.Join(all, "/")] = all
	deep := slices.Repeat([]string{"a", "bc"}, 50000)
	found[strings.Join(deep, "/")] = deep
	return found
}

func TestPath(t *testing.T) {
	for s, want := range paths() {
		if got, ok := tree.Path(s); !ok || !slices.Equal(got, want) {
			t.Errorf("P6.1: Path of %.60q: %.60q, %v", s, got, ok)
		}
	}
	if got, ok := tree.Path(""); !ok || got != nil {
		t.Errorf("P6.1: Path of the tree itself: %q, %v", got, ok)
	}
}

func TestPathOfNone(t *testing.T) {
	bad := []string{
		"/", "//", "///", "a/", "/a", "a//b", "//a", "a//", "/a/", "a/b/", "/a/b", "a///b", "a/b//c", ".", "..", "./", "/.", "./a", "../a", "a/.", "a/..",
		"a/./b", "a/../b", "./.", "../..", "a/b/..", "a/b/.", "a\\b/", "a/B", "A/b", "a/ b", "a /b", "a/b\n", "a/\x00", "\x00/a", "a/\xff", "a/ä", "a\u2215b", "a\uff0fb",
		"a/" + strings.Repeat("z", 21), strings.Repeat("z", 21) + "/a", strings.Repeat("z", 21), strings.Repeat("/", 1<<20), strings.Repeat("a/", 1<<17), strings.Repeat("a/", 1<<17) + ".",
	}
	for _, name := range badNames() {
		if name != "" && !strings.Contains(name, "/") {
			bad = append(bad, name)
		}
		// Of the names that are none, this one alone is a path that is right.
		if name != "a/b" {
			bad = append(bad, "a/"+name, name+"/a", "a/"+name+"/b")
		}
	}
	for _, s := range bad {
		if got, ok := tree.Path(s); ok || got != nil {
			t.Errorf("P0.2, P6.1: Path of %d bytes, %.60q: %.60q, %v", len(s), s, got, ok)
		}
	}
}

// Every byte at every place of a path.
func TestPathOfEachByte(t *testing.T) {
	text := []byte("ab/cd/e")
	for place, was := range text {
		for b := range 256 {
			text[place] = byte(b)
			right := true
			for part := range strings.SplitSeq(string(text), "/") {
				right = right && tree.Name(part)
			}
			got, ok := tree.Path(string(text))
			if ok != right || ok && strings.Join(got, "/") != string(text) || !ok && got != nil {
				t.Errorf("P6.1: Path of %q: %q, %v", text, got, ok)
			}
		}
		text[place] = was
	}
}

// A list that is handed in keeps what it holds, in its spare room too.
func TestWhatIsHandedInIsNotChanged(t *testing.T) {
	for _, es := range [][]api.Entry{many(20), files("b", "a", "b"), files("A", "b")} {
		for n := range len(es) + 1 {
			held := slices.Clone(es)
			tree.May(es[:n])
			tree.Put(es[:n])
			tree.Find(es[:n], "b")
			tree.Find(es[:n], "none")
			if !slices.Equal(es, held) {
				t.Fatalf("P0.3: %d entries handed in: %v, was %v", n, es, held)
			}
		}
	}
}

// spoil writes over a list and its spare room.
func spoil[T any](list []T, with T) {
	list = list[:cap(list)]
	for i := range list {
		list[i] = with
	}
}

func TestWhatIsHandedOutIsNew(t *testing.T) {
	body, path := plain(many(13)), "a/bc/d/e/f"
	firstEntries, _ := tree.Get(body)
	secondEntries, _ := tree.Get(body)
	firstParts, _ := tree.Path(path)
	secondParts, _ := tree.Path(path)
	spoil(firstEntries, dir("other", id(1)))
	spoil(firstParts, "other")
	thirdEntries, _ := tree.Get(body)
	thirdParts, _ := tree.Path(path)
	if !slices.Equal(secondEntries, many(13)) || !slices.Equal(thirdEntries, many(13)) {
		t.Errorf("P0.3, P0.5: Get, behind writing into its answer: %v, %v", secondEntries, thirdEntries)
	}
	if want := []string{"a", "bc", "d", "e", "f"}; !slices.Equal(secondParts, want) || !slices.Equal(thirdParts, want) {
		t.Errorf("P0.3, P0.5: Path, behind writing into its answer: %q, %q", secondParts, thirdParts)
	}
}

func ExamplePut() {
	s, ok := tree.Put([]api.Entry{{Name: "readme", Id: full('1')}, {Name: "src", Tree: true, Id: full('2')}})
	fmt.Printf("%q %v\n", s, ok)
	// Output: "f readme\x0011111111111111111111111111111111d src\x0022222222222222222222222222222222" true
}

func ExampleGet() {
	es, e := tree.Get("f readme\x0011111111111111111111111111111111d src\x0022222222222222222222222222222222")
	fmt.Println(e == api.OK)
	for _, x := range es {
		fmt.Println(x.Name, x.Tree, string(x.Id[:2]))
	}
	// Output:
	// true
	// readme false 11
	// src true 22
}

func ExamplePath() {
	parts, ok := tree.Path("src/lib/a.go")
	fmt.Printf("%q %v\n", parts, ok)
	parts, ok = tree.Path("src//a.go")
	fmt.Printf("%q %v\n", parts, ok)
	// Output:
	// ["src" "lib" "a.go"] true
	// [] false
}

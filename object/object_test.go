package object_test

import (
	"crypto/sha256"
	"fmt"
	"math"
	"slices"
	"strings"
	"testing"

	"colporteur/api"
	"colporteur/commit"
	"colporteur/object"
	"colporteur/tree"
)

// id is a name of an object, of bytes that hang on n.
func id(n int) api.Id {
	var found api.Id
	for i := range found {
		found[i] = byte(n + i*37)
	}
	return found
}

// ids are the names of those numbers, in their order.
func ids(numbers ...int) []api.Id {
	var found []api.Id
	for _, n := range numbers {
		found = append(found, id(n))
	}
	return found
}

// entries are n that rise, files and trees in turn.
func entries(n int) []api.Entry {
	var es []api.Entry
	for i := range n {
		es = append(es, api.Entry{Name: string([]byte{'a' + byte(i)}) + strings.Repeat("z", i%20), Tree: i%2 == 1, Id: id(3 * i)})
	}
	return es
}

// longest are as many entries as a tree may have, of names as long as may be.
func longest() []api.Entry {
	es := entries(api.MaxEntries)
	for i := range es {
		es[i].Name = es[i].Name[:1] + strings.Repeat("y", api.MaxName-1)
	}
	return es
}

// sample is a commit in which no field is zero.
func sample() api.Commit {
	return api.Commit{Tree: id(200), Parents: ids(9, 3), When: -2.5, Note: "one\n\ntwo\n"}
}

func withParents(ids []api.Id) api.Commit { c := sample(); c.Parents = ids; return c }

func withWhen(f float64) api.Commit { c := sample(); c.When = f; return c }

func withNote(s string) api.Commit { c := sample(); c.Note = s; return c }

func blobOf(s string) api.Object { return api.Object{Kind: api.KBlob, Blob: s} }

func treeOf(es []api.Entry) api.Object { return api.Object{Kind: api.KTree, Entries: es} }

func commitOf(c api.Commit) api.Object { return api.Object{Kind: api.KCommit, Commit: c} }

var lowNought = math.Copysign(0, -1)

func goodTimes() []float64 {
	return []float64{-math.MaxFloat64, -1e9, -1.5, -math.SmallestNonzeroFloat64, 0, math.SmallestNonzeroFloat64, 0.1, 1, 1731974400.25, math.MaxFloat64}
}

func badTimes() []float64 {
	return []float64{
		lowNought, math.Inf(1), math.Inf(-1), math.NaN(), math.Float64frombits(0x7ff0000000000001), math.Float64frombits(0x7ff8000000000123),
		math.Float64frombits(0xfff8000000000000), math.Float64frombits(math.MaxUint64),
	}
}

// texts are of blobs that may be.
func texts() []string {
	found := []string{
		"", "a", "\n", "\x00", "text\n", "\xff\xfe", "größe", "blob 4\x00text", "d a\x00", "tree ", strings.Repeat("b", 999), strings.Repeat("b", 1000),
		strings.Repeat("\x00", 1000), strings.Repeat("\xff", 1000), strings.Repeat("ä", 500), plain(treeOf(entries(3))), plain(commitOf(sample())),
	}
	for b := range 256 {
		found = append(found, string([]byte{byte(b)}), string([]byte{'a', byte(b), 'z'}))
	}
	return found
}

// right are objects that may be.
func right() []api.Object {
	var found []api.Object
	for _, s := range texts() {
		found = append(found, blobOf(s))
	}
	for n := range api.MaxEntries + 1 {
		found = append(found, treeOf(entries(n)))
	}
	found = append(found, treeOf(longest()), treeOf([]api.Entry{{Name: "a"}, {Name: "b"}}), treeOf([]api.Entry{{Name: "x", Tree: true, Id: id(5)}, {Name: "y", Id: id(5)}}))
	for _, list := range [][]api.Id{nil, ids(1), ids(2, 1), ids(1, 2, 3), ids(4, 3, 2, 1), ids(200), {{}}} {
		found = append(found, commitOf(withParents(list)), commitOf(api.Commit{Parents: list}))
	}
	for _, f := range goodTimes() {
		found = append(found, commitOf(withWhen(f)), commitOf(api.Commit{When: f}))
	}
	for _, s := range []string{"", "n", "\n", "\x00\xff", strings.Repeat("n", 100)} {
		found = append(found, commitOf(withNote(s)), commitOf(api.Commit{Note: s}))
	}
	return found
}

// noKinds are no kinds: they lie below, between and above those that are, some
// of them with the same low bits.
func noKinds() []int {
	return []int{
		0, -1, -2, -3, -4, 4, 5, 6, 7, 8, 100, 127, 128, 255, 256, 257, 258, 259, 1<<16 + 1, 1<<32 + 1, 1<<32 + 2, 1<<32 + 3, -1<<32 + 1,
		math.MaxInt32, math.MinInt32, math.MaxInt, math.MinInt, math.MinInt + 1, math.MinInt + 2, math.MinInt + 3,
	}
}

// badEntries are no tree's.
func badEntries() [][]api.Entry {
	twice := entries(2)
	twice[1].Name = twice[0].Name
	back := entries(20)
	slices.Reverse(back)
	return [][]api.Entry{
		{{}}, {{Name: "B"}}, {{Name: ".."}}, {{Name: "a/b", Tree: true}}, {{Name: strings.Repeat("n", 21)}}, twice, back, entries(21),
		append(entries(20), api.Entry{}), make([]api.Entry, 20), make([]api.Entry, 100000),
	}
}

// badCommits are none.
func badCommits() []api.Commit {
	found := []api.Commit{withNote(strings.Repeat("n", 101)), withNote(strings.Repeat("n", 1<<20))}
	for _, list := range [][]api.Id{ids(1, 1), ids(1, 2, 1), ids(1, 2, 3, 4, 5), make([]api.Id, 5), make([]api.Id, 100000)} {
		found = append(found, withParents(list), api.Commit{Parents: list})
	}
	for _, f := range badTimes() {
		found = append(found, withWhen(f), api.Commit{When: f})
	}
	return found
}

// fillings put into an object one thing that was not there, each another.
func fillings() (blobs, trees, commits []func(o *api.Object)) {
	for _, s := range []string{"b", "\x00", " ", strings.Repeat("b", 1000), strings.Repeat("b", 1001)} {
		blobs = append(blobs, func(o *api.Object) { o.Blob = s })
	}
	for _, es := range append(badEntries(), entries(1), entries(20), []api.Entry{{Tree: true}}, []api.Entry{{Id: api.Id{1}}}) {
		trees = append(trees, func(o *api.Object) { o.Entries = es })
	}
	for _, id := range []api.Id{id(1), {1}, {15: 1}, {31: 1}, {31: 128}} {
		commits = append(commits, func(o *api.Object) { o.Commit.Tree = id })
	}
	for _, list := range [][]api.Id{{{}}, ids(1), ids(1, 1), make([]api.Id, 4), make([]api.Id, 5)} {
		commits = append(commits, func(o *api.Object) { o.Commit.Parents = list })
	}
	for _, f := range append(goodTimes(), badTimes()...) {
		if math.Float64bits(f) != 0 {
			commits = append(commits, func(o *api.Object) { o.Commit.When = f })
		}
	}
	for _, s := range []string{"n", "\x00", " ", strings.Repeat("n", 100), strings.Repeat("n", 101)} {
		commits = append(commits, func(o *api.Object) { o.Commit.Note = s })
	}
	return append(blobs, func(o *api.Object) { o.Blob = "\n" }), trees, append(commits, func(o *api.Object) { o.Commit = sample() })
}

// mixed are objects right in what is of their kind, with one thing that is not.
func mixed() []api.Object {
	var found []api.Object
	add := func(o api.Object, lists ...[]func(o *api.Object)) {
		for _, turn := range slices.Concat(lists...) {
			filled := o
			turn(&filled)
			found = append(found, filled)
		}
	}
	blobs, trees, commits := fillings()
	for _, s := range []string{"", "text", strings.Repeat("b", 1000)} {
		add(blobOf(s), trees, commits)
	}
	for _, n := range []int{0, 2, 20} {
		add(treeOf(entries(n)), blobs, commits)
	}
	for _, c := range []api.Commit{{}, sample()} {
		add(commitOf(c), blobs, trees)
	}
	return found
}

// noKind are objects of kinds that are none, empty and with all that there is.
func noKind() []api.Object {
	var found []api.Object
	for _, kind := range noKinds() {
		found = append(found,
			api.Object{Kind: kind}, api.Object{Kind: kind, Blob: "text"}, api.Object{Kind: kind, Entries: entries(2)}, api.Object{Kind: kind, Commit: sample()},
			api.Object{Kind: kind, Blob: "text", Entries: entries(2), Commit: sample()}, api.Object{Kind: kind, Commit: api.Commit{When: math.NaN()}})
	}
	return found
}

// wrong are objects that may not be.
func wrong() []api.Object {
	found := append(mixed(), noKind()...)
	for _, s := range []string{strings.Repeat("b", 1001), strings.Repeat("\x00", 1002), strings.Repeat("b", 1256), strings.Repeat("ä", 501), strings.Repeat("b", 1<<20)} {
		found = append(found, blobOf(s))
	}
	for _, es := range badEntries() {
		found = append(found, treeOf(es))
	}
	for _, c := range badCommits() {
		found = append(found, commitOf(c))
	}
	return found
}

// plain is what encodes o, put together anew.
func plain(o api.Object) string {
	switch o.Kind {
	case api.KTree:
		body := ""
		for _, e := range o.Entries {
			body += fmt.Sprintf("%s %s\x00%s", map[bool]string{true: "d", false: "f"}[e.Tree], e.Name, string(e.Id[:]))
		}
		return body
	case api.KCommit:
		body := fmt.Sprintf("tree %x\n", o.Commit.Tree[:])
		for _, id := range o.Commit.Parents {
			body += fmt.Sprintf("parent %x\n", id[:])
		}
		return body + fmt.Sprintf("when %016x\n\n", math.Float64bits(o.Commit.When)) + o.Commit.Note
	}
	return o.Blob
}

// name is the name of that body's object, found anew.
func name(kind int, body string) api.Id {
	return sha256.Sum256(fmt.Appendf(nil, "%s %d\x00%s", []string{api.KBlob: "blob", api.KTree: "tree", api.KCommit: "commit"}[kind], len(body), body))
}

// same tells whether a and b are the same, field by field.
func same(a, b api.Object) bool {
	return a.Kind == b.Kind && a.Blob == b.Blob && slices.Equal(a.Entries, b.Entries) && a.Commit.Tree == b.Commit.Tree && slices.Equal(a.Commit.Parents, b.Commit.Parents) &&
		math.Float64bits(a.Commit.When) == math.Float64bits(b.Commit.When) && a.Commit.Note == b.Commit.Note
}

// show is o, so short that it can be told.
func show(o api.Object) string {
	return fmt.Sprintf("kind %d, %d bytes %.40q, %d entries %.200q, commit %.200q", o.Kind, len(o.Blob), o.Blob, len(o.Entries), fmt.Sprint(o.Entries), fmt.Sprint(o.Commit))
}

func TestMay(t *testing.T) {
	for _, o := range right() {
		if !object.May(o) {
			t.Errorf("P8.1: May of %s: false", show(o))
		}
	}
	for _, o := range wrong() {
		if object.May(o) {
			t.Errorf("P8.1: May of %s: true", show(o))
		}
	}
}

func TestPut(t *testing.T) {
	for _, o := range right() {
		if got, ok := object.Put(o); !ok || got != plain(o) {
			t.Errorf("P8.1: Put of %s: %q, %v, not %q", show(o), got, ok, plain(o))
		}
	}
	for _, x := range []struct {
		o    api.Object
		want string
	}{
		{blobOf("a\x00\n"), "a\x00\n"},
		{treeOf([]api.Entry{{Name: "a", Id: api.Id{10}}, {Name: "b.c", Tree: true, Id: api.Id{31: 255}}}), "f a\x00\n" + strings.Repeat("\x00", 31) + "d b.c\x00" + strings.Repeat("\x00", 31) + "\xff"},
		{commitOf(api.Commit{Parents: []api.Id{{0xab}}, When: 1.5, Note: "n"}), "tree " + strings.Repeat("0", 64) + "\nparent ab" + strings.Repeat("0", 62) + "\nwhen 3ff8000000000000\n\nn"},
		{blobOf(""), ""}, {treeOf(nil), ""}, {commitOf(api.Commit{}), "tree " + strings.Repeat("0", 64) + "\nwhen 0000000000000000\n\n"},
	} {
		if got, ok := object.Put(x.o); !ok || got != x.want {
			t.Errorf("P8.1: Put of %s: %q, %v", show(x.o), got, ok)
		}
	}
}

func TestPutOfWrong(t *testing.T) {
	for _, o := range wrong() {
		if got, ok := object.Put(o); got != "" || ok {
			t.Errorf("P0.2, P8.1: Put of %s: %.50q, %v", show(o), got, ok)
		}
	}
}

func TestId(t *testing.T) {
	for _, o := range right() {
		if got, ok := object.Id(o); !ok || got != name(o.Kind, plain(o)) {
			t.Errorf("P8.1: Id of %s: %x, %v", show(o), got, ok)
		}
	}
	for _, x := range []struct {
		o    api.Object
		want string
	}{
		{blobOf(""), "473a0f4c3be8a93681a267e3b1e9a7dcda1185436fe141f7749120a303721813"},
		{blobOf("hello\n"), "2cf8d83d9ee29543b34a87727421fdecb7e3f3a183d337639025de576db9ebb4"},
		{treeOf(nil), "6ef19b41225c5369f1c104d45d8d85efa9b057b53b14b4b9b939dd74decc5321"},
	} {
		if got, ok := object.Id(x.o); !ok || fmt.Sprintf("%x", got[:]) != x.want {
			t.Errorf("P8.1: Id of %s: %x, %v", show(x.o), got, ok)
		}
	}
}

func TestIdOfWrong(t *testing.T) {
	for _, o := range wrong() {
		if got, ok := object.Id(o); got != (api.Id{}) || ok {
			t.Errorf("P0.2, P8.1: Id of %s: %x, %v", show(o), got, ok)
		}
	}
}

// Objects of one body and different kinds have different names.
func TestIdOfOneBody(t *testing.T) {
	for _, o := range []api.Object{treeOf(nil), treeOf(entries(1)), treeOf(entries(10)), commitOf(api.Commit{}), commitOf(sample())} {
		one, ok := object.Id(o)
		other, also := object.Id(blobOf(plain(o)))
		if !ok || !also || one == other {
			t.Errorf("P8.1: Id of %s: %x, of a blob of its body: %x", show(o), one, other)
		}
	}
}

func TestLinks(t *testing.T) {
	for _, o := range right() {
		checkLinks(t, o)
	}
	for _, x := range []struct {
		o    api.Object
		want []api.Id
	}{
		{treeOf([]api.Entry{{Name: "a", Id: id(9)}, {Name: "b", Tree: true, Id: id(1)}, {Name: "c", Id: id(5)}}), ids(9, 1, 5)},
		{treeOf([]api.Entry{{Name: "a", Id: id(2)}, {Name: "b", Tree: true, Id: id(2)}, {Name: "c", Id: id(1)}, {Name: "d", Id: id(2)}}), ids(2, 2, 1, 2)},
		{treeOf([]api.Entry{{Name: "a"}, {Name: "b"}}), make([]api.Id, 2)},
		{commitOf(api.Commit{Tree: id(4), Parents: ids(7, 2, 9, 1)}), ids(4, 7, 2, 9, 1)},
		{commitOf(api.Commit{Tree: id(4), Parents: ids(5, 4)}), ids(4, 5, 4)},
		{commitOf(api.Commit{Tree: id(4)}), ids(4)}, {commitOf(api.Commit{}), make([]api.Id, 1)}, {treeOf(nil), nil}, {blobOf("text"), nil}, {blobOf(""), nil},
	} {
		if got := object.Links(x.o); !slices.Equal(got, x.want) {
			t.Errorf("P8.1: Links of %s: %x", show(x.o), got)
		}
	}
}

// checkLinks holds Links of o against what its kind says.
func checkLinks(t *testing.T, o api.Object) {
	t.Helper()
	var want []api.Id
	if o.Kind == api.KTree {
		for _, e := range o.Entries {
			want = append(want, e.Id)
		}
	}
	if o.Kind == api.KCommit {
		want = append(want, o.Commit.Tree)
		want = append(want, o.Commit.Parents...)
	}
	if got := object.Links(o); !slices.Equal(got, want) {
		t.Errorf("P8.1: Links of %s: %.200q", show(o), fmt.Sprint(got))
	}
}

// Links go by the kind alone, of those too that may not be.
func TestLinksOfWrong(t *testing.T) {
	for _, o := range wrong() {
		checkLinks(t, o)
	}
	for _, kind := range append(noKinds(), api.KBlob) {
		if got := object.Links(api.Object{Kind: kind, Entries: entries(3), Commit: sample()}); len(got) != 0 {
			t.Errorf("P8.1: Links of the kind %d: %x", kind, got)
		}
	}
}

// checkGood holds that body is o's.
func checkGood(t *testing.T, body string, o api.Object) {
	t.Helper()
	if got, e := object.Get(o.Kind, body); e != api.OK || !same(got, o) {
		t.Errorf("P8.1: Get of %d, %d bytes, %.100q: %s, %d, not %s", o.Kind, len(body), body, show(got), e, show(o))
	}
}

// checkBad holds that body is none of that kind, for the reason want.
func checkBad(t *testing.T, kind int, body string, want api.Errno) {
	t.Helper()
	if got, e := object.Get(kind, body); e != want || !same(got, api.Object{}) {
		t.Errorf("P0.2, P8.1: Get of %d, %d bytes, %.100q: %s, %d, not %d", kind, len(body), body, show(got), e, want)
	}
}

func TestGet(t *testing.T) {
	for _, o := range right() {
		checkGood(t, plain(o), o)
		body, _ := object.Put(o)
		checkGood(t, body, o)
	}
}

func TestGetOfWrong(t *testing.T) {
	for _, es := range badEntries() {
		if len(es) < 100 {
			checkBad(t, api.KTree, plain(treeOf(es)), api.ErrForm)
		}
	}
	for _, c := range badCommits() {
		if len(c.Parents) < 100 {
			checkBad(t, api.KCommit, plain(commitOf(c)), api.ErrForm)
		}
	}
	for _, kind := range []int{api.KTree, api.KCommit} {
		for _, body := range []string{"x", "\x00", "\n", "f", "d a\x00", "tree ", "blob 0\x00", strings.Repeat("x", 1000), strings.Repeat("x", 1001), strings.Repeat("\x00", 1<<20), strings.Repeat("\n", 1<<20)} {
			checkBad(t, kind, body, api.ErrForm)
		}
	}
}

func TestGetOfBlobs(t *testing.T) {
	for _, n := range []int{0, 1, 2, 255, 256, 998, 999, 1000} {
		for _, b := range []string{"b", "\x00", "\xff", "\n"} {
			checkGood(t, strings.Repeat(b, n), blobOf(strings.Repeat(b, n)))
		}
	}
	for _, n := range []int{1001, 1002, 1255, 1256, 2000, 1 << 16, 1<<16 + 1, 1 << 20} {
		for _, b := range []string{"b", "\x00", "\xff", "\n"} {
			checkBad(t, api.KBlob, strings.Repeat(b, n), api.ErrLimit)
		}
	}
}

// One kind's body as another kind.
func TestGetOfAnotherKind(t *testing.T) {
	for _, o := range right() {
		body := plain(o)
		if o.Kind == api.KBlob {
			continue
		}
		if len(body) > 1000 {
			checkBad(t, api.KBlob, body, api.ErrLimit)
		} else {
			checkGood(t, body, blobOf(body))
		}
		if o.Kind == api.KTree {
			checkBad(t, api.KCommit, body, api.ErrForm)
		} else {
			checkBad(t, api.KTree, body, api.ErrForm)
		}
	}
	if n := len(plain(treeOf(longest()))); n <= 1000 {
		t.Errorf("the longest tree has %d bytes, no more than a blob", n)
	}
	for _, body := range []string{"a", "text", strings.Repeat("b", 1000)} {
		checkBad(t, api.KTree, body, api.ErrForm)
		checkBad(t, api.KCommit, body, api.ErrForm)
	}
}

func TestGetOfNoKind(t *testing.T) {
	for _, kind := range noKinds() {
		for _, body := range []string{"", "x", plain(treeOf(entries(2))), plain(commitOf(sample())), strings.Repeat("b", 1000), strings.Repeat("b", 1001), strings.Repeat("b", 1<<20)} {
			checkBad(t, kind, body, api.ErrForm)
		}
	}
}

func TestGetOfNothing(t *testing.T) {
	checkGood(t, "", blobOf(""))
	checkGood(t, "", treeOf(nil))
	checkBad(t, api.KCommit, "", api.ErrForm)
}

// few are objects of each kind and form, none too long to be turned byte by byte.
func few() []api.Object {
	return []api.Object{
		blobOf("text\n"), treeOf(entries(1)), treeOf(entries(3)), treeOf([]api.Entry{{Name: "m", Tree: true}}), commitOf(api.Commit{}), commitOf(sample()),
		commitOf(withParents(ids(4, 3, 2, 1))), commitOf(withNote(strings.Repeat("n", 100))),
	}
}

// checkLower holds what Get tells of body against what the layer of that kind
// tells of it.
func checkLower(t *testing.T, kind int, body string) {
	t.Helper()
	want, e := blobOf(body), api.OK
	switch kind {
	case api.KTree:
		want.Kind, want.Blob = kind, ""
		want.Entries, e = tree.Get(body)
	case api.KCommit:
		want.Kind, want.Blob = kind, ""
		want.Commit, e = commit.Get(body)
	}
	if e != api.OK {
		checkBad(t, kind, body, e)
		return
	}
	checkGood(t, body, want)
	if again, ok := object.Put(want); !ok || again != body {
		t.Errorf("P8.1: Put of %s: %q, %v, not %q", show(want), again, ok, body)
	}
}

// At every place: a blob and a note may be shorter, a tree may end behind each
// entry.
func TestGetCutOff(t *testing.T) {
	for _, o := range append(few(), treeOf(longest()), blobOf(strings.Repeat("b", 1000))) {
		body := plain(o)
		ends := map[int]api.Object{}
		switch o.Kind {
		case api.KBlob:
			for n := range len(body) {
				ends[n] = blobOf(body[:n])
			}
		case api.KTree:
			for n := range len(o.Entries) {
				ends[len(plain(treeOf(o.Entries[:n])))] = treeOf(o.Entries[:n])
			}
		case api.KCommit:
			for n := range len(o.Commit.Note) {
				shorter := o
				shorter.Commit.Note = o.Commit.Note[:n]
				ends[len(plain(shorter))] = shorter
			}
		}
		for n := range len(body) {
			if shorter, ok := ends[n]; ok {
				checkGood(t, body[:n], shorter)
			} else {
				checkBad(t, o.Kind, body[:n], api.ErrForm)
			}
		}
	}
}

func TestGetWithAByteBehind(t *testing.T) {
	for b := range 256 {
		more := string([]byte{byte(b)})
		for _, n := range []int{1, 3, 20} {
			checkBad(t, api.KTree, plain(treeOf(entries(n)))+more, api.ErrForm)
		}
		checkBad(t, api.KTree, more, api.ErrForm)
		checkGood(t, plain(commitOf(sample()))+more, commitOf(withNote(sample().Note+more)))
		checkBad(t, api.KCommit, plain(commitOf(withNote(strings.Repeat("n", 100))))+more, api.ErrForm)
		checkGood(t, "text"+more, blobOf("text"+more))
		checkGood(t, strings.Repeat("b", 999)+more, blobOf(strings.Repeat("b", 999)+more))
		checkBad(t, api.KBlob, strings.Repeat("b", 1000)+more, api.ErrLimit)
	}
	checkBad(t, api.KTree, plain(treeOf(entries(21))), api.ErrForm)
}

// Every byte at every place, as each kind; what is turned is never the same.
func TestGetWithAByteTurned(t *testing.T) {
	for _, o := range few() {
		body := []byte(plain(o))
		for place, was := range body {
			for b := range 256 {
				body[place] = byte(b)
				checkLower(t, o.Kind, string(body))
				if got, e := object.Get(o.Kind, string(body)); byte(b) != was && e == api.OK && object.Eq(got, o) {
					t.Errorf("P8.1: Get of %.100q: still %s", body, show(o))
				}
			}
			body[place] = was ^ 1
			for kind := api.KBlob; kind <= api.KCommit; kind++ {
				checkLower(t, kind, string(body))
			}
			body[place] = was
		}
	}
}

// differ are objects of which no two are the same, that may be and that may not.
func differ() []api.Object {
	all := api.Object{Kind: api.KCommit, Blob: "text", Entries: entries(2), Commit: sample()}
	turned := func(turn func(o *api.Object)) api.Object {
		o := again(all)
		turn(&o)
		return o
	}
	found := []api.Object{all, {}, blobOf("b"), treeOf(entries(1)), commitOf(sample())}
	for _, kind := range append(noKinds(), api.KBlob, api.KTree) {
		found = append(found, turned(func(o *api.Object) { o.Kind = kind }))
	}
	for _, s := range []string{"", "tex", "text\n", "Text", "text\x00", strings.Repeat("b", 1<<16), strings.Repeat("b", 1<<16-1) + "c"} {
		found = append(found, turned(func(o *api.Object) { o.Blob = s }))
	}
	for _, es := range [][]api.Entry{nil, entries(1), entries(2)[1:], entries(3), {entries(2)[1], entries(2)[0]}, append(entries(2), entries(2)...), {{}}, {{}, {}}, make([]api.Entry, 1000), make([]api.Entry, 1001)} {
		found = append(found, turned(func(o *api.Object) { o.Entries = es }))
	}
	for i := range 2 {
		found = append(found,
			turned(func(o *api.Object) { o.Entries[i].Name += "x" }), turned(func(o *api.Object) { o.Entries[i].Name = "" }), turned(func(o *api.Object) { o.Entries[i].Tree = !o.Entries[i].Tree }),
			turned(func(o *api.Object) { o.Entries[i].Id[0]++ }), turned(func(o *api.Object) { o.Entries[i].Id[31]++ }), turned(func(o *api.Object) { o.Commit.Parents[i][0]++ }))
	}
	for _, list := range [][]api.Id{nil, ids(9), ids(3, 9), ids(9, 3, 1), ids(9, 9), {{}}, make([]api.Id, 1000)} {
		found = append(found, turned(func(o *api.Object) { o.Commit.Parents = list }))
	}
	for _, f := range append(goodTimes(), lowNought, math.NaN(), math.Inf(1), math.Inf(-1)) {
		found = append(found, turned(func(o *api.Object) { o.Commit.When = f }))
	}
	for _, s := range []string{"", "one\n\ntwo", "One\n\ntwo\n", "one\n\ntwo\n\x00"} {
		found = append(found, turned(func(o *api.Object) { o.Commit.Note = s }))
	}
	return append(found, turned(func(o *api.Object) { o.Commit.Tree = api.Id{} }), turned(func(o *api.Object) { o.Commit.Tree[31]++ }), turned(func(o *api.Object) { o.Commit = api.Commit{} }))
}

// again is o, in memory of its own.
func again(o api.Object) api.Object {
	o.Blob = strings.Clone(o.Blob)
	o.Entries = slices.Clone(o.Entries)
	o.Commit.Parents = slices.Clone(o.Commit.Parents)
	o.Commit.Note = strings.Clone(o.Commit.Note)
	return o
}

func TestEq(t *testing.T) {
	all := differ()
	for i, a := range all {
		for j, b := range all {
			if got := object.Eq(a, again(b)); got != (i == j) {
				t.Errorf("P8.1: Eq of %s and %s: %v", show(a), show(b), got)
			}
		}
	}
	for _, o := range append(right(), wrong()...) {
		if !object.Eq(o, again(o)) {
			t.Errorf("P8.1: Eq of %s and itself: false", show(o))
		}
	}
}

// One thing alone, of objects that have nothing else.
func TestEqOfOneThing(t *testing.T) {
	blobs, trees, commits := fillings()
	for kind := range 5 {
		for _, turn := range slices.Concat(blobs, trees, commits) {
			o := api.Object{Kind: kind}
			turn(&o)
			if object.Eq(o, api.Object{Kind: kind}) || object.Eq(api.Object{Kind: kind}, o) || !object.Eq(o, again(o)) {
				t.Errorf("P8.1: Eq of %s", show(o))
			}
		}
	}
}

func TestEqOfTimesByTheirBits(t *testing.T) {
	for _, one := range append(badTimes(), 0, 1) {
		for _, other := range append(badTimes(), 0, 1) {
			want := one != one && other != other || math.Float64bits(one) == math.Float64bits(other)
			for kind := range 5 {
				a, b := api.Object{Kind: kind, Commit: withWhen(one)}, api.Object{Kind: kind, Commit: withWhen(other)}
				if got := object.Eq(a, b); got != want {
					t.Errorf("P8.1: Eq of the times %x and %x: %v", math.Float64bits(one), math.Float64bits(other), got)
				}
			}
		}
	}
}

// Empty lists, in and out of their kind, are as none at all.
func TestNilIsAsEmpty(t *testing.T) {
	for _, o := range []api.Object{{}, blobOf("text"), blobOf(""), treeOf(nil), commitOf(api.Commit{}), commitOf(withParents(nil)), {Kind: 4}} {
		empty := o
		empty.Entries, empty.Commit.Parents = []api.Entry{}, make([]api.Id, 0, 4)
		if !object.Eq(o, empty) || !object.Eq(empty, o) || object.May(o) != object.May(empty) {
			t.Errorf("P0.4, P8.1: Eq or May of %s with empty lists", show(o))
		}
		one, ok := object.Put(o)
		other, also := object.Put(empty)
		if one != other || ok != also {
			t.Errorf("P0.4, P8.1: Put of %s with empty lists: %q, %v", show(o), other, also)
		}
		name, _ := object.Id(o)
		if got, also := object.Id(empty); got != name || ok != also || !slices.Equal(object.Links(o), object.Links(empty)) {
			t.Errorf("P0.4, P8.1: Id or Links of %s with empty lists", show(o))
		}
	}
}

// A list that is handed in keeps what it holds, in its spare room too.
func TestWhatIsHandedInIsNotChanged(t *testing.T) {
	for kind := range 5 {
		for n := range 4 {
			es, parents := entries(4), ids(4, 3, 3, 1)
			o := api.Object{Kind: kind, Entries: es[:n], Commit: withParents(parents[:n])}
			for _, o := range []api.Object{o, treeOf(es[:n]), commitOf(withParents(parents[:n]))} {
				object.May(o)
				object.Put(o)
				object.Id(o)
				object.Eq(o, o)
				for i := range object.Links(o) {
					object.Links(o)[i] = id(99)
				}
				_ = append(object.Links(o), id(98), id(97))
			}
			if !slices.Equal(es, entries(4)) || !slices.Equal(parents, ids(4, 3, 3, 1)) {
				t.Fatalf("P0.3: handed in, and changed: %v, %v", es, parents)
			}
		}
	}
}

func TestWhatIsHandedOutIsNew(t *testing.T) {
	for _, o := range []api.Object{treeOf(entries(3)), commitOf(withParents(ids(7, 5, 6)))} {
		body := plain(o)
		first, _ := object.Get(o.Kind, body)
		second, _ := object.Get(o.Kind, body)
		links, other := object.Links(second), object.Links(second)
		held := slices.Clone(links)
		spoil(first.Entries, api.Entry{Name: "spoilt"})
		spoil(first.Commit.Parents, id(99))
		spoil(other, id(98))
		third, _ := object.Get(o.Kind, body)
		if !same(second, o) || !same(third, o) || !slices.Equal(links, held) || !slices.Equal(object.Links(o), held) {
			t.Errorf("P0.3, P0.5: behind writing into answers: %s, %s, %x", show(second), show(third), links)
		}
	}
}

// spoil writes into all of list, its spare room too.
func spoil[T any](list []T, value T) {
	list = list[:cap(list)]
	for i := range list {
		list[i] = value
	}
}

func ExampleId() {
	blob, ok := object.Id(api.Object{Kind: api.KBlob, Blob: "hello\n"})
	fmt.Printf("%x %v\n", blob[:4], ok)
	root, ok := object.Id(api.Object{Kind: api.KTree, Entries: []api.Entry{{Name: "readme", Id: blob}}})
	fmt.Println(root != blob, ok)
	_, ok = object.Id(api.Object{Kind: api.KTree, Blob: "hello\n"})
	fmt.Println(ok)
	// Output:
	// 2cf8d83d true
	// true true
	// false
}

func ExampleGet() {
	o, e := object.Get(api.KTree, "d src\x00"+strings.Repeat("i", 32))
	fmt.Println(o.Entries[0].Name, o.Entries[0].Tree, e == api.OK)
	_, e = object.Get(api.KCommit, "d src\x00")
	fmt.Println(e == api.ErrForm)
	_, e = object.Get(api.KBlob, strings.Repeat("b", 1001))
	fmt.Println(e == api.ErrLimit)
	// Output:
	// src true true
	// true
	// true
}

func ExampleLinks() {
	c := api.Commit{Tree: api.Id{3}, Parents: []api.Id{{5}, {4}}}
	for _, id := range object.Links(api.Object{Kind: api.KCommit, Commit: c}) {
		fmt.Println(id[0])
	}
	// Output:
	// 3
	// 5
	// 4
}

package walk_test

import (
	"bytes"
	"crypto/sha256"
	"fmt"
	"maps"
	"math"
	"slices"
	"strings"
	"testing"

	"colporteur/api"
	"colporteur/object"
	"colporteur/walk"
)

func blobOf(s string) api.Object { return api.Object{Kind: api.KBlob, Blob: s} }

func treeOf(es ...api.Entry) api.Object { return api.Object{Kind: api.KTree, Entries: es} }

func commitOf(c api.Commit) api.Object { return api.Object{Kind: api.KCommit, Commit: c} }

// name is the name of o, which may be, found anew.
func name(o api.Object) api.Id {
	body, ok := object.Put(o)
	if !ok {
		panic(fmt.Sprintf("no object: %v", o))
	}
	word := []string{api.KBlob: "blob", api.KTree: "tree", api.KCommit: "commit"}[o.Kind]
	return sha256.Sum256(fmt.Appendf(nil, "%s %d\x00%s", word, len(body), body))
}

// names are those of os, in their order.
func names(os ...api.Object) []api.Id {
	var found []api.Id
	for _, o := range os {
		found = append(found, name(o))
	}
	return found
}

// rising are ids in their order, each once.
func rising(ids []api.Id) []api.Id {
	once := map[api.Id]bool{}
	for _, id := range ids {
		once[id] = true
	}
	return slices.SortedFunc(maps.Keys(once), func(a, b api.Id) int { return bytes.Compare(a[:], b[:]) })
}

// shelf has objects under labels, by which the tests speak of them. A label that
// stands for none is that of a name which no object has; "zero" is the zero Id.
type shelf map[string]api.Object

func (s shelf) id(label string) api.Id {
	if o, ok := s[label]; ok {
		return name(o)
	}
	if label == "zero" {
		return api.Id{}
	}
	return sha256.Sum256([]byte("no object, but " + label))
}

// ids are the names of those labels, in their order.
func (s shelf) ids(labels string) []api.Id {
	var found []api.Id
	for label := range strings.FieldsSeq(labels) {
		found = append(found, s.id(label))
	}
	return found
}

// objects are those of the labels, in their order.
func (s shelf) objects(labels string) []api.Object {
	var found []api.Object
	for label := range strings.FieldsSeq(labels) {
		o, ok := s[label]
		if !ok {
			panic("nothing on the shelf: " + label)
		}
		found = append(found, o)
	}
	return found
}

// labels are all of them, rising.
func (s shelf) labels() []string { return slices.Sorted(maps.Keys(s)) }

// every is all labels as one text.
func (s shelf) every() string { return strings.Join(s.labels(), " ") }

// but are all labels but those.
func (s shelf) but(labels string) string {
	var found []string
	for _, label := range s.labels() {
		if !slices.Contains(strings.Fields(labels), label) {
			found = append(found, label)
		}
	}
	return strings.Join(found, " ")
}

// graph has the objects of those labels.
func (s shelf) graph(labels string) *walk.Graph { return walk.New(s.objects(labels)...) }

// says is ids by their labels, in their order.
func (s shelf) says(ids []api.Id) string {
	label := map[api.Id]string{}
	for _, l := range append(s.labels(), "zero", "gone", "lost", "none", "away") {
		label[s.id(l)] = l
	}
	var found []string
	for _, id := range ids {
		text, ok := label[id]
		if !ok {
			text = fmt.Sprintf("%x", id[:4])
		}
		found = append(found, text)
	}
	return "[" + strings.Join(found, " ") + "]"
}

// rises asks that got is the names of those labels, rising.
func (s shelf) rises(t *testing.T, what string, got []api.Id, labels string) {
	t.Helper()
	if want := rising(s.ids(labels)); !slices.Equal(got, want) {
		t.Errorf("P15.1: %s: %s, not %s", what, s.says(got), s.says(want))
	}
}

// put sets o under a label; it may be, and is another one than those there.
func (s shelf) put(label string, o api.Object) {
	for other, there := range s {
		if label == other || name(o) == name(there) {
			panic(label + " is " + other)
		}
	}
	s[label] = o
}

// blobs sets a blob under each label.
func (s shelf) blobs(labels string) {
	for label := range strings.FieldsSeq(labels) {
		s.put(label, blobOf(label))
	}
}

// tree sets a tree under a label, of entries as "name=label", or "name/=label"
// where the entry says that it is a tree's.
func (s shelf) tree(label, entries string) {
	var es []api.Entry
	for entry := range strings.FieldsSeq(entries) {
		name, to, _ := strings.Cut(entry, "=")
		name, isTree := strings.CutSuffix(name, "/")
		es = append(es, api.Entry{Name: name, Tree: isTree, Id: s.id(to)})
	}
	s.put(label, treeOf(es...))
}

// commit sets a commit of that tree and those parents under a label.
func (s shelf) commit(label, tree, parents string) {
	s.put(label, commitOf(api.Commit{Tree: s.id(tree), Parents: s.ids(parents), When: float64(len(s)), Note: label}))
}

// history is one with trees within trees, which share entries, links that lead
// to what is nowhere, and a merge.
func history() shelf {
	s := shelf{}
	s.blobs("a b c")
	s.tree("empty", "")
	s.tree("lib", "x=a y=b")
	s.tree("deep", "more/=lib z=a")
	s.tree("src", "a=a c=c deep/=deep lib/=lib")
	s.tree("root1", "readme=a")
	s.tree("root2", "readme=a src/=src")
	s.tree("root3", "a=a gone=gone lost/=lost odd=lib readme=b src/=src wrong/=c")
	s.commit("c1", "root1", "")
	s.commit("c2", "root2", "c1")
	s.commit("side", "root1", "c1")
	s.commit("merge", "root3", "c2 side")
	s.commit("top", "root3", "merge")
	return s
}

// odd is a history with links that lead to what they should not.
func odd() shelf {
	s := history()
	s.tree("links", "commit=c1 tree/=c2")
	s.tree("zeros", "x=zero y/=zero")
	s.commit("ofNone", "none", "c1")
	s.commit("ofBlob", "a", "c1")
	s.commit("ofCommit", "c2", "")
	s.commit("ofLinks", "links", "")
	s.commit("ofZeros", "zeros", "")
	s.commit("zeroed", "zero", "zero")
	s.commit("orphan", "root1", "away c1")
	s.commit("half", "root1", "c1 away")
	s.commit("treeFirst", "empty", "lib c2")
	s.commit("blobFirst", "empty", "a c2")
	s.commit("blobLast", "empty", "c2 a")
	s.commit("last", "root1", "orphan treeFirst blobLast")
	return s
}

const longest = 1000 // bytes of a blob

// wrong are objects that may not be.
func wrong() []api.Object {
	both, named, timed := treeOf(), blobOf("b"), commitOf(api.Commit{})
	both.Blob = "b"
	named.Commit.Note = "n"
	timed.Entries = []api.Entry{{Name: "a"}}
	return []api.Object{
		{}, {Kind: 4}, {Kind: -1}, {Kind: 6, Blob: "b"}, {Kind: 1<<32 + 1}, {Kind: math.MinInt}, both, named, timed,
		blobOf(strings.Repeat("b", longest+1)), treeOf(api.Entry{}), treeOf(api.Entry{Name: "b"}, api.Entry{Name: "a"}), treeOf(api.Entry{Name: "a"}, api.Entry{Name: "a"}), treeOf(make([]api.Entry, 21)...),
		commitOf(api.Commit{When: math.NaN()}), commitOf(api.Commit{When: math.Inf(1)}), commitOf(api.Commit{When: math.Copysign(0, -1)}), commitOf(api.Commit{Note: strings.Repeat("n", 101)}),
		commitOf(api.Commit{Parents: make([]api.Id, 2)}), commitOf(api.Commit{Parents: []api.Id{{1}, {2}, {3}, {4}, {5}}}),
	}
}

// samples are objects of all kinds, small and as great as may be.
func samples() []api.Object {
	var es []api.Entry
	for at := range 20 {
		es = append(es, api.Entry{Name: fmt.Sprintf("%020d", at), Tree: at%3 == 0, Id: api.Id{byte(at), 31: 9}})
	}
	return []api.Object{
		blobOf(""), blobOf("a"), blobOf("\x00\xff\n"), blobOf(strings.Repeat("b", longest)), treeOf(), treeOf(api.Entry{Name: "a"}), treeOf(api.Entry{Name: "a", Tree: true, Id: api.Id{1}}, api.Entry{Name: "b", Id: api.Id{1}}), treeOf(es...),
		commitOf(api.Commit{}), commitOf(api.Commit{Tree: api.Id{3}, Parents: []api.Id{{9}, {3}}, When: -2.5, Note: "one\n\ntwo"}),
		commitOf(api.Commit{Parents: []api.Id{{4}, {3}, {2}, {}}, When: math.MaxFloat64, Note: strings.Repeat("n", 100)}),
	}
}

// hasJust asks that g has those objects, and nothing else, by Ids and Get.
func hasJust(t *testing.T, what string, g *walk.Graph, os []api.Object) {
	t.Helper()
	there := rising(names(os...))
	if got := g.Ids(); !slices.Equal(got, there) {
		t.Errorf("P15.1: %s: Ids: %x, not %x", what, got, there)
	}
	for _, o := range os {
		if got, ok := g.Get(name(o)); !ok || !object.Eq(got, o) {
			t.Errorf("P15.1: %s: Get of %.100v: %.100v, %v", what, o, got, ok)
		}
	}
	for _, id := range append(names(samples()...), api.Id{}, api.Id{1}, api.Id{31: 1}, name(blobOf("none"))) {
		got, ok := g.Get(id)
		if !slices.Contains(there, id) && (ok || !object.Eq(got, api.Object{})) {
			t.Errorf("P0.2, P15.1: %s: Get of what is not there: %.100v, %v", what, got, ok)
		}
	}
}

func TestNew(t *testing.T) {
	hasJust(t, "New of nothing", walk.New(), nil)
	hasJust(t, "New of an empty list", walk.New([]api.Object{}...), nil)
	hasJust(t, "New of what may not be", walk.New(wrong()...), nil)
	hasJust(t, "a zero Graph", &walk.Graph{}, nil)
	for _, o := range samples() {
		hasJust(t, "New of one", walk.New(o), []api.Object{o})
		hasJust(t, "New of one twice", walk.New(o, o), []api.Object{o})
		hasJust(t, "New of one among what may not be", walk.New(slices.Concat(wrong(), []api.Object{o}, wrong(), []api.Object{o})...), []api.Object{o})
	}
	os := samples()
	for at := range os {
		turned := append(slices.Clone(os[at:]), os[:at]...)
		hasJust(t, "New of some, turned", walk.New(turned...), os)
		slices.Reverse(turned)
		hasJust(t, "New of some, the other way", walk.New(turned...), os)
		hasJust(t, "New of some, each twice", walk.New(append(turned, os...)...), os)
		hasJust(t, "New of all but one", walk.New(turned[1:]...), turned[1:])
	}
	if walk.New() == nil || walk.New() == walk.New() {
		t.Error("P15.1: New tells nothing new")
	}
}

func TestAdd(t *testing.T) {
	for what, g := range map[string]*walk.Graph{"New of nothing": walk.New(), "a zero Graph": {}, "New of wrong ones": walk.New(wrong()...)} {
		var there []api.Object
		for _, o := range samples() {
			if !g.Add(o) {
				t.Errorf("P15.1: %s: Add of %.100v: false", what, o)
			}
			there = append(there, o)
			hasJust(t, what, g, there)
			for _, o := range slices.Concat(there, wrong()) {
				if g.Add(o) {
					t.Errorf("P15.1: %s: Add of what is there, or may not be: %.100v", what, o)
				}
			}
			hasJust(t, what+", behind what was not added", g, there)
		}
	}
	os := samples()
	for at, o := range os {
		g := walk.New(append(slices.Clone(os[:at]), os[at+1:]...)...)
		if !g.Add(o) || g.Add(o) {
			t.Errorf("P15.1: Add to a New of the others: %.100v", o)
		}
		hasJust(t, "Add to a New of the others", g, os)
	}
	var zero walk.Graph
	for _, o := range wrong() {
		if zero.Add(o) || walk.New().Add(o) {
			t.Errorf("P15.1: Add of what may not be: %.100v", o)
		}
	}
	hasJust(t, "a zero Graph to which wrong ones were added", &zero, nil)
}

// What differs in a list that is empty and one that is nil is one object.
func TestAddOfEmptyLists(t *testing.T) {
	for _, o := range samples() {
		empty := o
		if len(o.Entries) == 0 {
			empty.Entries = []api.Entry{}
		}
		if len(o.Commit.Parents) == 0 {
			empty.Commit.Parents = []api.Id{}
		}
		g, h := walk.New(o), walk.New(empty)
		if g.Add(empty) || h.Add(o) {
			t.Errorf("P0.4, P15.1: Add of %.100v with empty lists", o)
		}
		hasJust(t, "one with empty lists", h, []api.Object{o})
	}
}

// Objects of one body and different kinds are different ones.
func TestAddOfOneBody(t *testing.T) {
	tree, commit := samples()[6], samples()[9]
	g := walk.New()
	var there []api.Object
	for _, o := range []api.Object{tree, commit, blobOf(bodyOf(tree)), blobOf(bodyOf(commit)), treeOf(), blobOf("")} {
		if !g.Add(o) || g.Add(o) {
			t.Errorf("P15.1: Add of %v", o)
		}
		there = append(there, o)
	}
	hasJust(t, "objects of one body", g, there)
}

func bodyOf(o api.Object) string {
	body, _ := object.Put(o)
	return body
}

// roomy is a list with some room behind it.
func roomy[E any](list []E, rest ...E) []E { return append(slices.Clone(list), rest...)[:len(list)] }

// write writes over a list and its spare room.
func write[E any](list []E, with E) {
	list = list[:cap(list)]
	for i := range list {
		list[i] = with
	}
}

// spoil writes over all lists of objects.
func spoil(os ...api.Object) {
	for _, o := range os {
		write(o.Entries, api.Entry{Name: "spoilt", Id: api.Id{66}})
		write(o.Commit.Parents, api.Id{66})
	}
}

// roomyObjects are those of s, with room behind their lists.
func roomyObjects(s shelf) []api.Object {
	var os []api.Object
	for _, o := range s.objects(s.every()) {
		o.Entries = roomy(o.Entries, api.Entry{Name: "rest"})
		o.Commit.Parents = roomy(o.Commit.Parents, api.Id{55})
		os = append(os, o)
	}
	return roomy(os, blobOf("rest"), blobOf("more"))
}

// whole is all of a list of objects, spare room too.
func whole(os []api.Object) string {
	var s strings.Builder
	for _, o := range os[:cap(os)] {
		fmt.Fprintln(&s, o, o.Entries[:cap(o.Entries)], o.Commit.Parents[:cap(o.Commit.Parents)], len(o.Entries), len(o.Commit.Parents))
	}
	return s.String()
}

// tells is all that g tells of the names on a shelf.
func (s shelf) tells(g *walk.Graph) string {
	var text strings.Builder
	ids := append(s.ids(s.every()), s.id("gone"), api.Id{})
	fmt.Fprintln(&text, s.says(g.Ids()), s.says(g.Missing()), s.says(g.Reach(ids...)), s.says(g.Commits(ids...)))
	for _, id := range ids {
		fmt.Fprint(&text, s.says([]api.Id{id}), s.says(g.Reach(id)), s.says(g.Commits(id)), s.says(g.Log(id, 9)))
		o, ok := g.Get(id)
		fmt.Fprint(&text, o, ok)
		for _, path := range []string{"", "a", "readme", "src", "src/deep/more/x", "odd/y", "wrong", "gone", "lost", "/"} {
			found, e := g.Lookup(id, path)
			fmt.Fprint(&text, " ", e, s.says([]api.Id{found}))
		}
		fmt.Fprintln(&text)
	}
	return text.String()
}

func TestWhatIsHandedIn(t *testing.T) {
	s := odd()
	want := s.tells(s.graph(s.every()))
	for what, fill := range map[string]func(os []api.Object) *walk.Graph{
		"New": func(os []api.Object) *walk.Graph { return walk.New(os...) },
		"Add": func(os []api.Object) *walk.Graph {
			g := &walk.Graph{}
			for _, o := range os {
				g.Add(o)
			}
			return g
		},
	} {
		os := roomyObjects(s)
		was := whole(os)
		g := fill(os)
		if whole(os) != was {
			t.Errorf("P0.3: %s changes what it is handed", what)
		}
		if g.Add(os[0]); whole(os) != was {
			t.Errorf("P0.3: Add of what is there changes what it is handed")
		}
		spoil(os...)
		write(os, blobOf("spoilt"))
		if got := s.tells(g); got != want {
			t.Errorf("P0.3: %s keeps what it is handed: %s, not %s", what, got, want)
		}
	}
}

// The lists of names that Reach and Commits are handed stay what they are.
func TestNamesThatAreHandedIn(t *testing.T) {
	s := odd()
	g := s.graph(s.every())
	for _, labels := range []string{"", "a", "gone", "last last top", "top gone c1 top a merge", "zero last c1 lib src empty", s.every()} {
		from := roomy(s.ids(labels), s.ids("side gone c1 zero")...)
		was := slices.Clone(from[:cap(from)])
		reached, commits := g.Reach(from...), g.Commits(from...)
		if !slices.Equal(from[:cap(from)], was) {
			t.Errorf("P0.3: Reach or Commits change what they are handed: %s", labels)
		}
		wasReached, wasCommits := slices.Clone(reached), slices.Clone(commits)
		write(from, api.Id{66})
		if !slices.Equal(reached, wasReached) || !slices.Equal(commits, wasCommits) {
			t.Errorf("P0.3: Reach or Commits answer with what they are handed: %s", labels)
		}
		write(reached, api.Id{66})
		write(commits, api.Id{66})
	}
}

func TestWhatIsToldIsTheCallers(t *testing.T) {
	s := odd()
	g := s.graph(s.every())
	want := s.tells(g)
	for _, o := range s.objects(s.every()) {
		id := name(o)
		got, _ := g.Get(id)
		again, _ := g.Get(id)
		spoil(got)
		if third, ok := g.Get(id); !ok || !object.Eq(again, o) || !object.Eq(third, o) {
			t.Errorf("P0.3: Gets of %v share memory: %v, %v", o, again, third)
		}
	}
	for what, tell := range map[string]func() []api.Id{
		"Ids": g.Ids, "Missing": g.Missing, "Reach": func() []api.Id { return g.Reach(s.ids("last top")...) }, "Commits": func() []api.Id { return g.Commits(s.ids("last top")...) },
		"Log": func() []api.Id { return g.Log(s.id("top"), 9) }, "Reach of one": func() []api.Id { return g.Reach(s.id("a")) }, "Log of one": func() []api.Id { return g.Log(s.id("c1"), 1) },
	} {
		one, other := tell(), tell()
		was := slices.Clone(other)
		if len(one) == 0 {
			t.Fatalf("%s tells nothing", what)
		}
		write(one, api.Id{66})
		if !slices.Equal(other, was) || !slices.Equal(tell(), was) {
			t.Errorf("P0.3: answers of %s share memory", what)
		}
	}
	if got := s.tells(g); got != want {
		t.Errorf("P0.3: a graph behind spoilt answers: %s, not %s", got, want)
	}
}

// What is told hangs on what was Added, not on its order, nor on other graphs,
// nor on what was asked.
func TestGraphsApart(t *testing.T) {
	s := odd()
	os := s.objects(s.every())
	g := walk.New(os...)
	want := s.tells(g)
	for at := range os {
		turned := append(slices.Clone(os[at:]), os[:at]...)
		if at%2 == 0 {
			slices.Reverse(turned)
		}
		if got := s.tells(walk.New(turned...)); got != want {
			t.Errorf("P0.5: a graph in another order tells %s, not %s", got, want)
		}
	}
	little := s.graph("c1 root1")
	was := s.tells(little)
	if s.tells(g) != want || s.tells(little) != was || !g.Add(blobOf("new")) || s.tells(little) != was {
		t.Error("P0.5: graphs have something in common")
	}
	hasJust(t, "a graph beside another one", little, s.objects("c1 root1"))
	hasJust(t, "a graph that was asked", g, append(os, blobOf("new")))
	hasJust(t, "a new graph", walk.New(), nil)
}

func TestOfNil(t *testing.T) {
	s := odd()
	var none *walk.Graph
	for _, o := range slices.Concat(samples(), wrong()) {
		if none.Add(o) {
			t.Errorf("P15.1: nil: Add of %.100v", o)
		}
	}
	hasJust(t, "nil", none, nil)
	if none.Ids() != nil || none.Missing() != nil || none.Reach() != nil || none.Commits() != nil {
		t.Error("P15.1: nil: Ids, Missing, Reach or Commits tell something")
	}
	for _, id := range append(s.ids(s.every()), api.Id{}, api.Id{1}) {
		if got, ok := none.Get(id); ok || !object.Eq(got, api.Object{}) {
			t.Errorf("P15.1: nil: Get: %v, %v", got, ok)
		}
		if none.Reach(id, id, api.Id{}) != nil || none.Commits(id, id, api.Id{}) != nil {
			t.Error("P15.1: nil: Reach or Commits tell something")
		}
		for _, n := range []int{math.MinInt, -1, 0, 1, 2, math.MaxInt} {
			if none.Log(id, n) != nil {
				t.Errorf("P15.1: nil: Log of %d tells something", n)
			}
		}
		for _, path := range append(noPaths(), "", "a", "a/b", "readme") {
			if got, e := none.Lookup(id, path); got != (api.Id{}) || e != api.ErrNone {
				t.Errorf("P15.1: nil: Lookup of %.40q: %x, %d", path, got, e)
			}
		}
	}
}

func ExampleGraph() {
	blob := blobOf("hello\n")
	root := treeOf(api.Entry{Name: "readme", Id: name(blob)})
	first := commitOf(api.Commit{Tree: name(root), When: 1})
	second := commitOf(api.Commit{Tree: name(root), Parents: names(first), When: 2})
	g := walk.New(second, root, blob)
	id, e := g.Lookup(name(second), "readme")
	fmt.Println(id == name(blob), e == api.OK)
	fmt.Println(len(g.Reach(name(second))), slices.Equal(g.Missing(), names(first)), len(g.Log(name(second), 9)))
	fmt.Println(g.Add(first), g.Add(first), len(g.Missing()), len(g.Log(name(second), 9)))
	// Output:
	// true true
	// 3 true 1
	// true false 0 2
}

package store_test

import (
	"bytes"
	"crypto/sha256"
	"fmt"
	"maps"
	"math"
	"slices"
	"strings"
	"testing"

	"colporteur/api"
	"colporteur/disk"
	"colporteur/object"
	"colporteur/store"
)

const (
	mostObjects = 200
	mostRefs    = 16
	all         = math.MaxUint64 // each bit
)

// id is a name of an object, of bytes that hang on n.
func id(n int) api.Id {
	var found api.Id
	for i := range found {
		found[i] = byte(n + i*37)
	}
	return found
}

// ids are the names of those numbers, in their order.
func ids(numbers ...int) []api.Id {
	var found []api.Id
	for _, n := range numbers {
		found = append(found, id(n))
	}
	return found
}

func blobOf(s string) api.Object { return api.Object{Kind: api.KBlob, Blob: s} }

func treeOf(es ...api.Entry) api.Object { return api.Object{Kind: api.KTree, Entries: es} }

func commitOf(c api.Commit) api.Object { return api.Object{Kind: api.KCommit, Commit: c} }

// blobs are n different ones, from the one of that number on.
func blobs(from, n int) []api.Object {
	var os []api.Object
	for at := range n {
		os = append(os, blobOf(fmt.Sprint("blob ", from+at)))
	}
	return os
}

// samples are objects of all kinds, small and as great as may be.
func samples() []api.Object {
	os := []api.Object{blobOf(""), blobOf("a"), blobOf("0000"), blobOf("\x00\xff\n"), blobOf(strings.Repeat("b", 1000)), treeOf(), treeOf(api.Entry{Name: "a", Id: id(1)}, api.Entry{Name: "b", Tree: true, Id: id(2)})}
	var es []api.Entry
	for at := range 20 {
		es = append(es, api.Entry{Name: fmt.Sprintf("%020d", at), Tree: at%2 == 0, Id: id(at)})
	}
	os = append(os, treeOf(es...), commitOf(api.Commit{}), commitOf(api.Commit{Tree: id(3), Parents: ids(9, 3), When: -2.5, Note: "one\n\ntwo"}))
	return append(os, commitOf(api.Commit{Parents: ids(4, 3, 2, 1), When: math.MaxFloat64, Note: strings.Repeat("n", 100)}), commitOf(api.Commit{When: math.SmallestNonzeroFloat64}))
}

// wrong are objects that may not be.
func wrong() []api.Object {
	both := treeOf()
	both.Blob = "b"
	return []api.Object{
		{}, {Kind: 4}, {Kind: -1}, {Kind: 6, Blob: "b"}, {Kind: 1<<32 + 1}, both, blobOf(strings.Repeat("b", 1001)), treeOf(api.Entry{}), treeOf(api.Entry{Name: "b"}, api.Entry{Name: "a"}),
		commitOf(api.Commit{When: math.NaN()}), commitOf(api.Commit{When: math.Copysign(0, -1)}), commitOf(api.Commit{Parents: ids(1, 1)}), commitOf(api.Commit{Parents: ids(1, 2, 3, 4, 5)}),
		{Kind: api.KBlob, Commit: api.Commit{When: math.Copysign(0, -1)}},
	}
}

// refsOf are refs of those names, at different ids.
func refsOf(names ...string) []api.Ref {
	var refs []api.Ref
	for at, name := range names {
		refs = append(refs, api.Ref{Name: name, Id: id(at)})
	}
	return refs
}

// numbered are n refs.
func numbered(n int) []api.Ref {
	var names []string
	for at := range n {
		names = append(names, fmt.Sprintf("ref-%03d", at))
	}
	return refsOf(names...)
}

// name is the name of o, which may be, found anew.
func name(o api.Object) api.Id {
	body, ok := object.Put(o)
	if !ok {
		panic(fmt.Sprintf("no object: %v", o))
	}
	word := []string{api.KBlob: "blob", api.KTree: "tree", api.KCommit: "commit"}[o.Kind]
	return sha256.Sum256(fmt.Appendf(nil, "%s %d\x00%s", word, len(body), body))
}

// names are those of os, in their order.
func names(os ...api.Object) []api.Id {
	var found []api.Id
	for _, o := range os {
		found = append(found, name(o))
	}
	return found
}

// show is all of a state as a text.
func show(x store.State) string {
	var s strings.Builder
	for _, o := range x.Objects {
		body, ok := object.Put(o)
		fmt.Fprintf(&s, "%d %v %q\n", o.Kind, ok, body)
	}
	fmt.Fprintf(&s, "promised %x\nshallow %x\nrefs %v\nfiltered %v", x.Promised, x.Shallow, x.Refs, x.Filtered)
	return s.String()
}

// call is what an Install is handed.
type call struct {
	os       []api.Object
	promised bool
	shallow  []api.Id
	refs     []api.Ref
}

func (c call) install(s *store.Store) api.Errno {
	return s.Install(c.os, c.promised, c.shallow, c.refs)
}

// wants is the error that the chapter's words ask for.
func (c call) wants() api.Errno {
	switch {
	case len(c.os) > mostObjects:
		return api.ErrLimit
	case !each(c.os, object.May):
		return api.ErrForm
	case !each(c.refs, func(r api.Ref) bool { return mayName(r.Name) }):
		return api.ErrForm
	}
	for at, r := range c.refs {
		for _, other := range c.refs[:at] {
			if other.Name == r.Name {
				return api.ErrForm
			}
		}
	}
	if len(c.refs) > mostRefs {
		return api.ErrLimit
	}
	return api.OK
}

// each tells whether may says yes to each of list.
func each[E any](list []E, may func(E) bool) bool {
	for _, x := range list {
		if !may(x) {
			return false
		}
	}
	return true
}

// mayName tells whether s may be a ref's.
func mayName(s string) bool {
	return strings.Trim(s, "abcdefghijklmnopqrstuvwxyz0123456789.-_") == "" && 0 < len(s) && len(s) <= 20 && s != "." && s != ".."
}

// paper is a store as the chapter's words go: the calls that were taken, of
// which it works out anew whatever it tells.
type paper []call

// state is what is held behind all calls.
func (p paper) state() store.State {
	objects, plain := map[api.Id]api.Object{}, map[api.Id]bool{}
	var x store.State
	for _, c := range p {
		for _, o := range c.os {
			objects[name(o)] = o
			plain[name(o)] = plain[name(o)] || !c.promised
		}
		x.Filtered = x.Filtered || c.promised && len(c.os) != 0
		x.Shallow, x.Refs = rising(c.shallow), slices.Clone(c.refs)
	}
	slices.SortFunc(x.Refs, func(a, b api.Ref) int { return strings.Compare(a.Name, b.Name) })
	for _, id := range rising(slices.Collect(maps.Keys(objects))) {
		x.Objects = append(x.Objects, objects[id])
		if !plain[id] {
			x.Promised = append(x.Promised, id)
		}
	}
	return x
}

// rising are ids in their order, each once.
func rising(ids []api.Id) []api.Id {
	once := map[api.Id]bool{}
	for _, id := range ids {
		once[id] = true
	}
	return slices.SortedFunc(maps.Keys(once), func(a, b api.Id) int { return bytes.Compare(a[:], b[:]) })
}

// opened is the store of d.
func opened(t *testing.T, d *disk.Disk) *store.Store {
	t.Helper()
	s, e := store.Open(d)
	if e != api.OK || s == nil {
		t.Fatalf("P14.1: Open: %d", e)
	}
	return s
}

// filled is a disk on which those calls were taken, and the store of it.
func filled(t *testing.T, calls ...call) (*disk.Disk, *store.Store) {
	t.Helper()
	d := disk.New()
	s := opened(t, d)
	for at, c := range calls {
		if e := c.install(s); e != api.OK {
			t.Fatalf("P14.1: Install, the call %d: %d", at, e)
		}
	}
	return d, s
}

// tells asks that s tells just x, by each of its calls.
func tells(t *testing.T, what string, s *store.Store, x store.State) {
	t.Helper()
	if got := s.State(); show(got) != show(x) {
		t.Errorf("P14.1: %s: State: %.3000s\nnot %.3000s", what, show(got), show(x))
	}
	for _, o := range x.Objects {
		id := name(o)
		got, ok := s.Get(id)
		if !ok || !object.Eq(got, o) || !s.Has(id) || s.Promised(id) != slices.Contains(x.Promised, id) {
			t.Errorf("P14.1: %s: of %.100v: Get: %.100v, %v; Has: %v; Promised: %v", what, o, got, ok, s.Has(id), s.Promised(id))
		}
	}
	held := names(x.Objects...)
	for _, id := range slices.Concat(names(samples()...), names(blobOf("none")), []api.Id{{}, {31: 1}, id(1)}, x.Shallow) {
		if !slices.Contains(held, id) {
			hasNone(t, what, s, id)
		}
	}
}

// hasNone asks that nothing of that name is held.
func hasNone(t *testing.T, what string, s *store.Store, id api.Id) {
	t.Helper()
	if got, ok := s.Get(id); ok || !object.Eq(got, api.Object{}) {
		t.Errorf("P0.2, P14.1: %s: Get of what is not held: %v, %v", what, got, ok)
	}
	if s.Has(id) || s.Promised(id) {
		t.Errorf("P14.1: %s: of what is not held Has: %v, Promised: %v", what, s.Has(id), s.Promised(id))
	}
}

// follows does the calls one behind the other, and asks behind each that the
// store, and one that is opened anew, tell what the paper tells.
func follows(t *testing.T, what string, calls ...call) {
	t.Helper()
	d, s := filled(t)
	for at, c := range calls {
		what := fmt.Sprint(what, ", the call ", at)
		if e := c.install(s); e != api.OK {
			t.Fatalf("P14.1: %s: Install: %d", what, e)
		}
		want := paper(calls[:at+1]).state()
		tells(t, what, s, want)
		tells(t, what+", opened anew", opened(t, d), want)
		tells(t, what+", opened behind a Crash", opened(t, crashed(d)), want)
	}
}

// crashed is d behind a Crash that keeps only what was sure.
func crashed(d *disk.Disk) *disk.Disk {
	d.Crash(0)
	return d
}

func plain(os ...api.Object) call { return call{os: os} }

func promised(os ...api.Object) call { return call{os: os, promised: true} }

func TestInstallOfNothing(t *testing.T) {
	follows(t, "nothing", call{}, call{os: []api.Object{}, shallow: []api.Id{}, refs: []api.Ref{}}, call{promised: true}, call{})
	follows(t, "nothing behind something", call{os: samples(), promised: true, shallow: ids(1), refs: numbered(2)}, call{})
	follows(t, "nothing but shallow names and refs", call{shallow: ids(1, 2)}, call{refs: numbered(2)}, call{promised: true, shallow: ids(3)}, call{})
	_, s := filled(t, call{})
	tells(t, "Install of nothing", s, store.State{})
}

func TestFiltered(t *testing.T) {
	for _, x := range []struct {
		calls []call
		want  bool
	}{
		{[]call{{}}, false}, {[]call{{promised: true}}, false}, {[]call{{promised: true, shallow: ids(1), refs: numbered(1)}}, false},
		{[]call{plain(samples()...)}, false}, {[]call{promised(blobOf("a"))}, true}, {[]call{plain(blobOf("a")), promised(blobOf("a"))}, true},
		{[]call{promised(blobOf("a")), plain(blobOf("a"))}, true}, {[]call{promised(blobOf("a")), {}}, true}, {[]call{plain(blobOf("a")), {promised: true}}, false},
	} {
		d, s := filled(t, x.calls...)
		if got, anew := s.State().Filtered, opened(t, d).State().Filtered; got != x.want || anew != x.want {
			t.Errorf("P14.1: %v: Filtered %v, opened anew %v", x.calls, got, anew)
		}
		follows(t, "Filtered", x.calls...)
	}
}

func TestInstallOfObjects(t *testing.T) {
	for _, o := range samples() {
		follows(t, "one object", plain(o))
		follows(t, "one object, promised", promised(o))
		follows(t, "one object twice in one call", plain(o, o), promised(o, o, o))
		follows(t, "one object twice in one call, promised", promised(o, o), plain(o, o))
	}
	follows(t, "objects of all kinds", plain(samples()...))
	follows(t, "objects of all kinds, promised", promised(samples()...))
	var calls []call
	for at, o := range samples() {
		calls = append(calls, call{os: []api.Object{o}, promised: at%2 == 0})
	}
	follows(t, "objects one behind the other", calls...)
	slices.Reverse(calls)
	follows(t, "objects in another order", calls...)
}

func TestPromised(t *testing.T) {
	a, b, c := blobOf("a"), commitOf(api.Commit{Tree: id(1), Parents: ids(2)}), treeOf(api.Entry{Name: "x", Id: id(3)})
	for _, x := range []struct {
		what  string
		calls []call
		want  []api.Id
	}{
		{"came unpromised", []call{plain(a, b)}, nil},
		{"came promised", []call{promised(a)}, names(a)},
		{"held unpromised, came unpromised", []call{plain(a), plain(a)}, nil},
		{"held unpromised, came promised", []call{plain(a), promised(a)}, nil},
		{"held promised, came promised", []call{promised(a), promised(a)}, names(a)},
		{"held promised, came unpromised", []call{promised(a), plain(a)}, nil},
		{"held promised, came unpromised, came promised", []call{promised(a), plain(a), promised(a)}, nil},
		{"held unpromised, came promised, twice", []call{plain(a), promised(a, a), promised(a)}, nil},
		{"one beside it", []call{plain(a), promised(a, b)}, names(b)},
		{"others beside it", []call{promised(a, b, c), plain(b)}, rising(names(a, c))},
		{"another one came", []call{promised(a), plain(b)}, names(a)},
		{"nothing came", []call{promised(a), {}}, names(a)},
		{"a promised call ahead of an unpromised one", []call{promised(a, b), plain(b, c)}, names(a)},
		{"an unpromised call ahead of a promised one", []call{plain(a, b), promised(b, c)}, names(c)},
	} {
		d, s := filled(t, x.calls...)
		for _, s := range []*store.Store{s, opened(t, d)} {
			if got := s.State().Promised; !slices.Equal(got, x.want) {
				t.Errorf("P14.1: %s: Promised %x, not %x", x.what, got, x.want)
			}
			for _, id := range names(a, b, c) {
				if s.Promised(id) != slices.Contains(x.want, id) {
					t.Errorf("P14.1: %s: Promised of %x: %v", x.what, id, s.Promised(id))
				}
			}
		}
		follows(t, x.what, x.calls...)
	}
}

func TestInstallOfMany(t *testing.T) {
	for _, n := range []int{1, 2, 199, 200} {
		follows(t, fmt.Sprint(n, " objects"), plain(blobs(0, n)...))
		follows(t, fmt.Sprint(n, " objects, promised"), promised(blobs(0, n)...))
	}
	follows(t, "201 objects in two calls", plain(blobs(0, 200)...), promised(blobs(200, 1)...))
	follows(t, "400 objects in two calls, and others", promised(blobs(0, 200)...), plain(blobs(200, 200)...), plain(blobs(400, 1)...), plain(blobs(0, 200)...))
	follows(t, "200 times one object", promised(slices.Repeat(samples()[:1], 200)...))
	var big []api.Object
	for at := range 200 {
		big = append(big, blobOf(fmt.Sprintf("%01000d", at)))
	}
	follows(t, "200 long objects", plain(big...))
	var calls []call
	for at := range 7 {
		calls = append(calls, call{os: blobs(150*at, 200), promised: at%2 == 0})
	}
	follows(t, "1100 objects in calls that have some in common", calls...)
}

func TestShallow(t *testing.T) {
	for _, x := range []struct{ in, want []api.Id }{
		{ids(1), ids(1)}, {[]api.Id{{2}, {1}}, []api.Id{{1}, {2}}}, {[]api.Id{{9}, {3}, {9}}, []api.Id{{3}, {9}}}, {[]api.Id{{5}, {5}, {5}}, []api.Id{{5}}},
		{[]api.Id{{1}, {}, {31: 1}}, []api.Id{{}, {31: 1}, {1}}}, {[]api.Id{{255}, {128}, {127}}, []api.Id{{127}, {128}, {255}}},
	} {
		d, s := filled(t, call{shallow: ids(77), refs: numbered(1)}, call{shallow: x.in})
		for _, s := range []*store.Store{s, opened(t, d)} {
			if got := s.State().Shallow; !slices.Equal(got, x.want) {
				t.Errorf("P14.1: Install of shallow %x: %x", x.in, got)
			}
		}
		follows(t, "shallow names", call{shallow: x.in}, call{os: samples(), shallow: x.in}, call{})
	}
	var many []api.Id
	for at := range 3000 {
		many = append(many, id(at%256), api.Id{byte(at), byte(at >> 8)})
	}
	follows(t, "many shallow names", call{shallow: many})
}

func TestRefs(t *testing.T) {
	for _, x := range []struct{ in, want []api.Ref }{
		{refsOf("m"), refsOf("m")}, {[]api.Ref{{Name: "z", Id: id(1)}, {Name: "m", Id: id(2)}}, []api.Ref{{Name: "m", Id: id(2)}, {Name: "z", Id: id(1)}}},
		{[]api.Ref{{Name: "b"}, {Name: "ab"}, {Name: "a"}, {Name: "a.b"}, {Name: "0"}}, []api.Ref{{Name: "0"}, {Name: "a"}, {Name: "a.b"}, {Name: "ab"}, {Name: "b"}}},
		{[]api.Ref{{Name: "b", Id: id(1)}, {Name: "a", Id: id(1)}}, []api.Ref{{Name: "a", Id: id(1)}, {Name: "b", Id: id(1)}}},
	} {
		d, s := filled(t, call{shallow: ids(7), refs: refsOf("gone", "m")}, call{refs: x.in})
		for _, s := range []*store.Store{s, opened(t, d)} {
			if got := s.State().Refs; !slices.Equal(got, x.want) {
				t.Errorf("P14.1: Install of refs %v: %v", x.in, got)
			}
		}
	}
	for _, n := range []int{1, 2, 15, 16} {
		refs := numbered(n)
		slices.Reverse(refs)
		follows(t, fmt.Sprint(n, " refs that fall"), call{refs: refs}, call{refs: numbered(n - 1)}, call{})
	}
	follows(t, "odd names", call{refs: refsOf("...", "-", "_", ".a", "filtered", "ref", "shallow", "promised", "0000", strings.Repeat("n", 20))})
}

// badNames are no ref's.
func badNames() []string {
	return []string{"", ".", "..", "A", "a b", "a/b", " ", "a\n", "\x00", "\u00e9", "\xff", "refs/heads/m", strings.Repeat("n", 21), strings.Repeat("n", 1<<16)}
}

// badCalls are such as no Install takes.
func badCalls() map[string]call {
	found := map[string]call{
		"201 objects": plain(blobs(0, 201)...), "201 objects, promised": promised(blobs(0, 201)...), "201 times one object": plain(slices.Repeat(blobs(0, 1), 201)...),
		"100,000 objects": plain(slices.Repeat(blobs(0, 1), 100_000)...), "201 objects that may not be": plain(make([]api.Object, 201)...), "256 objects": plain(blobs(0, 256)...),
		"17 refs": {refs: numbered(17)}, "17 refs and objects": {os: samples(), promised: true, refs: numbered(17)}, "10,000 refs": {refs: numbered(10_000)}, "32 refs": {refs: numbered(32)},
		"one Name twice": {refs: refsOf("a", "a")}, "one Name twice at one id": {refs: []api.Ref{{Name: "a"}, {Name: "a"}}}, "one Name twice, others between": {refs: refsOf("b", "c", "a", "b")},
		"one Name twice, others ahead": {refs: refsOf("a", "c", "z", "z")}, "17 refs, one Name twice": {refs: append(numbered(16), refsOf("ref-000")...)}, "17 refs of one Name": {refs: slices.Repeat(refsOf("a"), 17)},
		"16 refs, one Name twice": {refs: append(numbered(15), refsOf("ref-003")...)}, "17 refs, one that may not be": {refs: append(numbered(16), refsOf("A")...)},
		"201 objects, one that may not be": plain(append(blobs(0, 200), api.Object{})...), "201 objects and 17 refs": {os: blobs(0, 201), refs: numbered(17)}, "201 objects and a wrong Name": {os: blobs(0, 201), refs: refsOf("A")},
		"a wrong object and 17 refs": {os: []api.Object{{}}, refs: numbered(17)}, "a wrong object and a wrong Name": {os: []api.Object{{}}, refs: refsOf("..")}, "200 objects and 17 refs": {os: blobs(0, 200), refs: numbered(17)},
	}
	for at, o := range wrong() {
		found[fmt.Sprint("the wrong object ", at)] = plain(o)
		found[fmt.Sprint("the wrong object ", at, ", promised")] = promised(o)
		found[fmt.Sprint("the wrong object ", at, ", the first")] = plain(append([]api.Object{o}, samples()...)...)
		found[fmt.Sprint("the wrong object ", at, ", the last")] = promised(append(samples(), o)...)
		found[fmt.Sprint("the wrong object ", at, ", of 200")] = plain(slices.Concat(blobs(0, 100), []api.Object{o}, blobs(100, 99))...)
	}
	for at, s := range badNames() {
		found[fmt.Sprint("the wrong Name ", at)] = call{refs: refsOf(s)}
		found[fmt.Sprint("the wrong Name ", at, ", the first")] = call{os: samples(), shallow: ids(8), refs: refsOf(s, "a", "z")}
		found[fmt.Sprint("the wrong Name ", at, ", the last")] = call{os: samples(), promised: true, refs: refsOf("z", "a", s)}
	}
	return found
}

func TestInstallOfWrong(t *testing.T) {
	for what, c := range badCalls() {
		want := c.wants()
		if want == api.OK {
			t.Fatalf("%s may be", what)
		}
		for _, ahead := range [][]call{nil, {{os: samples()[:3], shallow: ids(1), refs: refsOf("m")}, promised(samples()[5:9]...)}} {
			d, s := filled(t, ahead...)
			was, ops := texts(d), d.Ops()
			for range 2 {
				if e := c.install(s); e != want {
					t.Errorf("P14.1: Install of %s: %d, not %d", what, e, want)
				}
			}
			if texts(d) != was || d.Ops() != ops {
				t.Errorf("P14.1: Install of %s: the disk is changed", what)
			}
			tells(t, what, s, paper(ahead).state())
			tells(t, what+", opened anew", opened(t, d), paper(ahead).state())
			// It tells so of a disk that lets no operation, too: it does none.
			d.Fuse(0)
			if e := c.install(s); e != want || d.Down() {
				t.Errorf("P14.1: Install of %s with a Fuse of 0: %d, not %d", what, e, want)
			}
			d.Fuse(-1)
			if e := s.Install(nil, false, nil, nil); e != api.OK {
				t.Errorf("P14.1: Install behind that of %s: %d", what, e)
			}
		}
	}
	for what, want := range map[string]api.Errno{
		"201 objects, one that may not be": api.ErrLimit, "201 objects and a wrong Name": api.ErrLimit, "a wrong object and 17 refs": api.ErrForm,
		"17 refs": api.ErrLimit, "17 refs, one Name twice": api.ErrForm, "17 refs, one that may not be": api.ErrForm, "one Name twice": api.ErrForm,
	} {
		if got := badCalls()[what].wants(); got != want {
			t.Errorf("%s: %d, not %d", what, got, want)
		}
	}
}

// texts are all files of d.
func texts(d *disk.Disk) string {
	var s strings.Builder
	for _, file := range d.Files() {
		b, e := d.Read(file)
		fmt.Fprintf(&s, "%q %q %d\n", file, b, e)
	}
	return s.String()
}

func TestOfNil(t *testing.T) {
	var none *store.Store
	for what, s := range map[string]*store.Store{"nil": none, "a zero Store": {}} {
		isDown(t, what, s)
		for _, c := range badCalls() {
			if e := c.install(s); e != api.ErrDown {
				t.Errorf("P14.1: %s: Install of what may not be: %d", what, e)
			}
		}
	}
}

// isDown asks that s tells ErrDown, or nothing, to all.
func isDown(t *testing.T, what string, s *store.Store) {
	t.Helper()
	if got := s.State(); show(got) != show(store.State{}) {
		t.Errorf("P0.2, P14.1: %s: State: %s", what, show(got))
	}
	for _, id := range append(names(samples()...), api.Id{}, id(1)) {
		hasNone(t, what, s, id)
	}
	for _, c := range []call{{}, plain(samples()...), promised(samples()[0]), {shallow: ids(1), refs: numbered(2)}, {os: make([]api.Object, 201)}, {os: make([]api.Object, 1)}, {refs: refsOf("A")}, {refs: numbered(17)}} {
		if e := c.install(s); e != api.ErrDown {
			t.Errorf("P14.1: %s: Install: %d", what, e)
		}
	}
}

func sample() store.State {
	return store.State{Objects: []api.Object{blobOf("a"), blobOf("b"), samples()[9]}, Promised: ids(1, 2), Shallow: ids(3, 4), Refs: refsOf("m", "n"), Filtered: true}
}

// turns are what makes another one of a sample.
func turns() map[string]func(x *store.State) {
	return map[string]func(x *store.State){
		"Objects nil":            func(x *store.State) { x.Objects = nil },
		"Objects less":           func(x *store.State) { x.Objects = x.Objects[:2] },
		"Objects without first":  func(x *store.State) { x.Objects = x.Objects[1:] },
		"Objects more":           func(x *store.State) { x.Objects = append(x.Objects, blobOf("c")) },
		"Objects one twice":      func(x *store.State) { x.Objects = append(x.Objects, x.Objects[2]) },
		"Objects in order":       func(x *store.State) { slices.Reverse(x.Objects) },
		"Objects two in order":   func(x *store.State) { x.Objects[0], x.Objects[1] = x.Objects[1], x.Objects[0] },
		"an object's Blob":       func(x *store.State) { x.Objects[1].Blob = "c" },
		"an object's Kind":       func(x *store.State) { x.Objects[1].Kind = 4 },
		"an object's Entries":    func(x *store.State) { x.Objects[1].Entries = make([]api.Entry, 1) },
		"a commit's Tree":        func(x *store.State) { x.Objects[2].Commit.Tree = id(8) },
		"a commit's Parents":     func(x *store.State) { x.Objects[2].Commit.Parents = ids(3, 9) },
		"a commit's When":        func(x *store.State) { x.Objects[2].Commit.When = 2.5 },
		"a blob's When of -0":    func(x *store.State) { x.Objects[0].Commit.When = math.Copysign(0, -1) },
		"a commit's When of NaN": func(x *store.State) { x.Objects[2].Commit.When = math.NaN() },
		"a commit's Note":        func(x *store.State) { x.Objects[2].Commit.Note = "" },
		"Promised nil":           func(x *store.State) { x.Promised = nil },
		"Promised less":          func(x *store.State) { x.Promised = x.Promised[:1] },
		"Promised more":          func(x *store.State) { x.Promised = append(x.Promised, id(5)) },
		"Promised others":        func(x *store.State) { x.Promised = ids(1, 3) },
		"Promised in order":      func(x *store.State) { slices.Reverse(x.Promised) },
		"Shallow nil":            func(x *store.State) { x.Shallow = nil },
		"Shallow less":           func(x *store.State) { x.Shallow = x.Shallow[1:] },
		"Shallow more":           func(x *store.State) { x.Shallow = append(x.Shallow, id(4)) },
		"Shallow others":         func(x *store.State) { x.Shallow = ids(5, 4) },
		"Shallow in order":       func(x *store.State) { slices.Reverse(x.Shallow) },
		"Refs nil":               func(x *store.State) { x.Refs = nil },
		"Refs less":              func(x *store.State) { x.Refs = x.Refs[:1] },
		"Refs more":              func(x *store.State) { x.Refs = append(x.Refs, api.Ref{}) },
		"a ref's Name":           func(x *store.State) { x.Refs[1].Name = "o" },
		"a ref's Id":             func(x *store.State) { x.Refs[0].Id = id(9) },
		"Refs in order":          func(x *store.State) { slices.Reverse(x.Refs) },
		"Filtered":               func(x *store.State) { x.Filtered = false },
	}
}

func TestEq(t *testing.T) {
	if a, b := sample(), sample(); !store.Eq(a, b) || !store.Eq(a, a) {
		t.Error("P14.1: Eq of one")
	}
	for what, turn := range turns() {
		turned, alike := sample(), sample()
		turn(&turned)
		turn(&alike)
		if store.Eq(turned, sample()) || store.Eq(sample(), turned) {
			t.Errorf("P14.1: Eq of what differs in %s", what)
		}
		if !store.Eq(turned, alike) {
			t.Errorf("P14.1: Eq of two that are turned in %s", what)
		}
		if store.Eq(turned, store.State{}) || store.Eq(store.State{}, turned) {
			t.Errorf("P14.1: Eq of none and what is turned in %s", what)
		}
	}
	empty := store.State{Objects: []api.Object{}, Promised: []api.Id{}, Shallow: []api.Id{}, Refs: []api.Ref{}}
	if !store.Eq(empty, store.State{}) || !store.Eq(store.State{}, empty) || !store.Eq(store.State{}, store.State{}) || store.Eq(store.State{Filtered: true}, empty) {
		t.Error("P0.4, P14.1: Eq of none")
	}
	a, b := store.State{Objects: []api.Object{treeOf(), commitOf(api.Commit{})}}, store.State{Objects: []api.Object{treeOf(), commitOf(api.Commit{Parents: []api.Id{}})}}
	b.Objects[0].Entries = []api.Entry{}
	if !store.Eq(a, b) {
		t.Error("P0.4, P14.1: Eq of objects with empty lists")
	}
	d, s := filled(t, call{os: samples(), promised: true, shallow: ids(1, 2), refs: numbered(3)})
	if !store.Eq(s.State(), s.State()) || !store.Eq(s.State(), opened(t, d).State()) || store.Eq(s.State(), store.State{}) {
		t.Error("P14.1: Eq of a State")
	}
}

// roomy is a list with some room behind it.
func roomy[E any](list []E, rest ...E) []E { return append(slices.Clone(list), rest...)[:len(list)] }

// write writes over a list and its spare room.
func write[E any](list []E, with E) {
	list = list[:cap(list)]
	for i := range list {
		list[i] = with
	}
}

// spoil writes over all lists of objects.
func spoil(os []api.Object) {
	for _, o := range os {
		write(o.Entries, api.Entry{Name: "spoilt"})
		write(o.Commit.Parents, id(99))
	}
	write(os, blobOf("spoilt"))
}

// roomyCall is a call whose lists have room behind them, those in objects too.
func roomyCall() call {
	var os []api.Object
	for _, o := range samples() {
		o.Entries = roomy(o.Entries, api.Entry{Name: "rest"})
		o.Commit.Parents = roomy(o.Commit.Parents, id(55))
		os = append(os, o)
	}
	return call{os: roomy(os, blobOf("rest")), shallow: roomy(ids(9, 3, 9, 1), id(0), id(0)), refs: roomy(refsOf("z", "m", "a"), refsOf("0", "1")...)}
}

// whole is all that a call is handed, with the spare room.
func (c call) whole() string {
	var s strings.Builder
	for _, o := range c.os[:cap(c.os)] {
		fmt.Fprintln(&s, o, o.Entries[:cap(o.Entries)], o.Commit.Parents[:cap(o.Commit.Parents)])
	}
	fmt.Fprintln(&s, c.shallow[:cap(c.shallow)], c.refs[:cap(c.refs)], len(c.os), len(c.shallow), len(c.refs))
	return s.String()
}

func TestWhatIsHandedIn(t *testing.T) {
	for _, promised := range []bool{false, true} {
		c := roomyCall()
		c.promised = promised
		was, want := c.whole(), paper{c}.state()
		shown := show(want)
		d, s := filled(t, c)
		if c.whole() != was {
			t.Errorf("P0.3: Install changes what it is handed: %s, not %s", c.whole(), was)
		}
		spoil(c.os)
		write(c.shallow, id(77))
		write(c.refs, api.Ref{Name: "spoilt"})
		if got := show(s.State()); got != shown {
			t.Errorf("P0.3: Install keeps what it is handed: %s, not %s", got, shown)
		}
		if e := s.Install(nil, false, ids(1, 3, 9), refsOf("a")); e != api.OK || len(opened(t, d).State().Objects) != len(samples()) {
			t.Error("P0.3: Install behind what is spoilt")
		}
	}
}

func TestWhatIsToldIsTheCallers(t *testing.T) {
	c := roomyCall()
	c.promised = true
	d, s := filled(t, c)
	for _, s := range []*store.Store{s, opened(t, d)} {
		other := s.State()
		want := show(other)
		x := s.State()
		spoil(x.Objects)
		write(x.Promised, id(99))
		if show(store.State{Objects: other.Objects, Promised: other.Promised, Shallow: x.Shallow, Refs: x.Refs, Filtered: true}) != want {
			t.Error("P0.3: Promised and Shallow share memory")
		}
		write(x.Shallow, id(99))
		write(x.Refs, api.Ref{Name: "spoilt"})
		if show(other) != want || show(s.State()) != want {
			t.Errorf("P0.3: States share memory: %s, %s, not %s", show(other), show(s.State()), want)
		}
		for _, o := range samples() {
			got, _ := s.Get(name(o))
			again, _ := s.Get(name(o))
			spoil([]api.Object{got})
			if third, ok := s.Get(name(o)); !ok || !object.Eq(again, o) || !object.Eq(third, o) {
				t.Errorf("P0.3: Gets of %v share memory: %v, %v", o, again, third)
			}
		}
		if show(s.State()) != want || show(opened(t, d).State()) != want {
			t.Errorf("P0.3: State behind spoilt Gets: %s, not %s", show(s.State()), want)
		}
		if e := s.Install(nil, true, c.shallow, c.refs); e != api.OK || show(opened(t, d).State()) != want {
			t.Error("P0.3: Install behind what is spoilt")
		}
	}
}

// Objects of one State share no memory with one another.
func TestObjectsOfAState(t *testing.T) {
	_, s := filled(t, plain(samples()...))
	for at := range samples() {
		x := s.State()
		whole := slices.Clone(x.Objects)
		for k := range whole {
			whole[k].Entries, whole[k].Commit.Parents = slices.Clone(whole[k].Entries), slices.Clone(whole[k].Commit.Parents)
		}
		write(x.Objects[at].Entries, api.Entry{Name: "spoilt"})
		write(x.Objects[at].Commit.Parents, id(99))
		for k, o := range x.Objects {
			if k != at && !object.Eq(o, whole[k]) {
				t.Errorf("P0.3: objects of a State share memory: %v, not %v", o, whole[k])
			}
		}
	}
}

// Two stores have nothing in common.
func TestStoresApart(t *testing.T) {
	d, s := filled(t, call{os: samples()[:2], shallow: ids(1), refs: numbered(1)})
	anew := opened(t, d)
	want := s.State()
	if e := s.Install(samples(), true, ids(2), numbered(2)); e != api.OK {
		t.Fatalf("P14.1: Install: %d", e)
	}
	tells(t, "a store beside another one", anew, want)
	_, third := filled(t)
	tells(t, "a store of another disk", third, store.State{})
	for range 3 {
		c := call{os: samples(), promised: true, shallow: ids(2, 1), refs: numbered(4)}
		one, _ := filled(t, c)
		two, _ := filled(t, c)
		if texts(one) != texts(two) || one.Ops() != two.Ops() {
			t.Error("P0.5: the same calls make different files")
		}
	}
}

func ExampleStore() {
	d := disk.New()
	s, _ := store.Open(d)
	a, b := api.Object{Kind: api.KBlob, Blob: "a"}, api.Object{Kind: api.KBlob, Blob: "b"}
	fmt.Println(s.Install([]api.Object{a}, false, nil, []api.Ref{{Name: "main"}}) == api.OK)
	d.Fuse(0)
	fmt.Println(s.Install([]api.Object{b}, true, nil, nil) == api.ErrDown, len(s.State().Objects))
	d.Crash(0)
	s, _ = store.Open(d)
	x := s.State()
	fmt.Println(len(x.Objects), x.Objects[0].Blob, x.Refs[0].Name, x.Filtered)
	// Output:
	// true
	// true 0
	// 1 a main false
}

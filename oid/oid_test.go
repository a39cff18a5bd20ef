package oid_test

import (
	"bytes"
	"crypto/sha256"
	"encoding/hex"
	"fmt"
	"math"
	"slices"
	"strings"
	"testing"

	"colporteur/api"
	"colporteur/oid"
)

// all are all 256 bytes, rising.
func all() string {
	var b []byte
	for i := range 256 {
		b = append(b, byte(i))
	}
	return string(b)
}

// bodies are of no byte, of one digit's length and of several, of any bytes.
func bodies() []string {
	found := []string{"", "a", "\x00", "\xff", "0", "hello\n", "blob 1\x00x", "\x80\xfe not UTF-8 \xc3", "größer", all(), strings.Repeat(all(), 50)}
	for _, n := range []int{9, 10, 11, 99, 100, 101, 999, 1000, 1001, 9999, 10000, 123456} {
		found = append(found, strings.Repeat("x", n))
	}
	return found
}

func TestOf(t *testing.T) {
	for _, body := range bodies() {
		for kind, word := range map[int]string{
			api.KBlob: "blob", api.KTree: "tree", api.KCommit: "commit",
			0: "?", 4: "?", -1: "?", -2: "?", 256 + 1: "?", 1<<32 + 1: "?", math.MinInt: "?", math.MinInt + 1: "?", math.MaxInt: "?",
		} {
			text := fmt.Sprintf("%s %d\x00%s", word, len(body), body)
			if got, want := oid.Of(kind, body), api.Id(sha256.Sum256([]byte(text))); got != want {
				t.Errorf("P4.1: Of kind %d, %d bytes: %x, not %x", kind, len(body), got, want)
			}
		}
	}
}

// Git's own names, in a repository of SHA-256.
func TestOfKnown(t *testing.T) {
	for _, x := range []struct {
		kind       int
		body, name string
	}{
		{api.KBlob, "", "473a0f4c3be8a93681a267e3b1e9a7dcda1185436fe141f7749120a303721813"},
		{api.KBlob, "hello\n", "2cf8d83d9ee29543b34a87727421fdecb7e3f3a183d337639025de576db9ebb4"},
		{api.KTree, "", "6ef19b41225c5369f1c104d45d8d85efa9b057b53b14b4b9b939dd74decc5321"},
	} {
		if got := oid.Hex(oid.Of(x.kind, x.body)); got != x.name {
			t.Errorf("P4.1: Of kind %d, %q: %s", x.kind, x.body, got)
		}
	}
}

// A name parts objects of another kind and another body.
func TestOfParts(t *testing.T) {
	whose := map[api.Id]string{}
	for _, body := range bodies() {
		for kind := range 4 {
			id, who := oid.Of(kind, body), fmt.Sprintf("kind %d, %.20q, %d bytes", kind, body, len(body))
			if other, ok := whose[id]; ok {
				t.Errorf("P4.1: Of %s is that of %s", who, other)
			}
			whose[id] = who
			if oid.Of(kind, body) != id {
				t.Errorf("P0.5: Of %s, asked again", who)
			}
		}
	}
}

// names are names of all bytes: each at each place.
func names() []api.Id {
	var found []api.Id
	for b := range 256 {
		for i := range len(api.Id{}) {
			var one, even api.Id
			one[i] = byte(b)
			for j := range even {
				even[j] = byte(b + i*j)
			}
			found = append(found, one, even)
		}
	}
	return found
}

func TestHexAndGet(t *testing.T) {
	for _, id := range names() {
		s := oid.Hex(id)
		if s != hex.EncodeToString(id[:]) {
			t.Fatalf("P4.1: Hex of %v: %q", id, s)
		}
		if got, ok := oid.Get(s); !ok || got != id {
			t.Fatalf("P4.1: Get of %q: %v, %v", s, got, ok)
		}
	}
}

func TestGetOfNone(t *testing.T) {
	s := oid.Hex(api.Id([]byte("0123456789abcdef0123456789abcdef")))
	long := strings.Repeat(s, 3)
	for n := range len(long) {
		if got, ok := oid.Get(long[:n]); n != 64 && (ok || got != api.Id{}) {
			t.Errorf("P4.1, P0.2: Get of %d digits: %v, %v", n, got, ok)
		}
	}
	for _, bad := range []string{
		strings.Repeat("A", 64), strings.Repeat("ab", 31) + "aB", "0x" + s[2:], s + "\n", s + " ", " " + s, " " + s[1:], s[:63] + "\x00",
		strings.Repeat("é", 32), strings.Repeat("٣", 32), s[:62] + "é", strings.Repeat("\xff", 64),
	} {
		if got, ok := oid.Get(bad); ok || got != (api.Id{}) {
			t.Errorf("P4.1, P0.2: Get of %q: %v, %v", bad, got, ok)
		}
	}
}

// Every byte at every place: a digit alone is right.
func TestGetOfEachSign(t *testing.T) {
	text := []byte(strings.Repeat("7e", 32))
	for i := range text {
		was := text[i]
		for b := range 256 {
			text[i] = byte(b)
			got, ok := oid.Get(string(text))
			var want api.Id
			right := strings.IndexByte("0123456789abcdef", byte(b)) >= 0
			if right {
				copy(want[:], mustDecode(t, string(text)))
			}
			if ok != right || got != want {
				t.Fatalf("P4.1, P0.2: Get of %q: %v, %v", text, got, ok)
			}
		}
		text[i] = was
	}
}

func mustDecode(t *testing.T, s string) []byte {
	b, e := hex.DecodeString(s)
	if e != nil {
		t.Fatal(e)
	}
	return b
}

// rising are names that rise, parting at the first, a middle and the last byte,
// of bytes below and above 127.
func rising() []api.Id {
	at := func(places ...int) (id api.Id) {
		for k := 0; k < len(places); k += 2 {
			id[places[k]] = byte(places[k+1])
		}
		return id
	}
	return []api.Id{
		{}, at(31, 1), at(31, 127), at(31, 128), at(31, 255), at(30, 1), at(30, 1, 31, 200),
		at(15, 127, 16, 255, 31, 255), at(15, 128), at(15, 128, 16, 1), at(15, 255, 31, 1),
		at(0, 1), at(0, 1, 31, 1), at(0, 1, 15, 9), at(0, 1, 1, 2), at(0, 2), at(0, 126, 1, 255), at(0, 127),
		at(0, 127, 1, 255), at(0, 128), at(0, 128, 1, 127), at(0, 128, 1, 128), at(0, 200), at(0, 255), at(0, 255, 31, 255),
		api.Id(bytes.Repeat([]byte{255}, 32)),
	}
}

func TestLess(t *testing.T) {
	up := rising()
	for i, a := range up {
		for j, b := range up {
			if got := oid.Less(a, b); got != (i < j) {
				t.Errorf("P4.1: Less of %x, %x: %v", a, b, got)
			}
		}
	}
}

// Names that part at one place alone, each two bytes there.
func TestLessAtEachPlace(t *testing.T) {
	for place := range 32 {
		a := api.Id(bytes.Repeat([]byte{128}, 32))
		b := a
		for x := range 256 {
			for y := range 256 {
				a[place], b[place] = byte(x), byte(y)
				if got := oid.Less(a, b); got != (x < y) {
					t.Fatalf("P4.1: Less at place %d of %d, %d: %v", place, x, y, got)
				}
			}
		}
	}
}

func TestSort(t *testing.T) {
	up := rising()
	down := slices.Clone(up)
	slices.Reverse(down)
	mixed := slices.Concat(up[10:], up[:15], down, up[5:6])
	for _, x := range []struct {
		name     string
		in, want []api.Id
	}{
		{"nil", nil, nil},
		{"none", []api.Id{}, nil},
		{"one", up[3:4], up[3:4]},
		{"the zero one", []api.Id{{}}, []api.Id{{}}},
		{"two in order", up[:2], up[:2]},
		{"two out of order", []api.Id{up[1], up[0]}, up[:2]},
		{"the same twice", []api.Id{up[4], up[4]}, up[4:5]},
		{"the same often", []api.Id{up[4], up[4], up[4], up[4], up[4]}, up[4:5]},
		{"the same apart", []api.Id{up[4], up[3], up[4], up[3], up[4]}, up[3:5]},
		{"in order", up, up},
		{"out of order", down, up},
		{"several times", mixed, up},
	} {
		if got := oid.Sort(x.in...); !slices.Equal(got, x.want) {
			t.Errorf("P4.1: Sort of %s: %x", x.name, got)
		}
	}
	if len(oid.Sort()) != 0 {
		t.Error("P4.1: Sort of nothing at all")
	}
}

// Many, each time in another order, and each some times.
func TestSortOfMany(t *testing.T) {
	var want, in []api.Id
	for i := range 1000 {
		want = append(want, api.Id{byte(i >> 8), byte(i), 7})
	}
	for _, stride := range []int{1, 7, 333, 999} {
		in = nil
		for i := range 3000 {
			in = append(in, want[i*stride%1000])
		}
		if got := oid.Sort(in...); !slices.Equal(got, want) {
			t.Errorf("P4.1: Sort of 3000 by strides of %d: %d", stride, len(got))
		}
	}
}

// What is handed in stays, its spare room too, and what is answered is another's.
func TestSortKeepsApart(t *testing.T) {
	for _, n := range []int{0, 1, 2, 12} {
		held := make([]api.Id, 40)
		for i := range held {
			held[i] = api.Id{byte(100 - i/2)}
		}
		before := slices.Clone(held)
		first := oid.Sort(held[:n]...)
		second := oid.Sort(held[:n]...)
		want := slices.Clone(second)
		fill(first)
		if !slices.Equal(held, before) {
			t.Errorf("P0.3: Sort of %d changed what was handed in, or shares it", n)
		}
		if !slices.Equal(second, want) {
			t.Errorf("P0.3: two answers of Sort of %d share memory", n)
		}
		fill(held)
		if !slices.Equal(second, want) {
			t.Errorf("P0.3: Sort of %d keeps what was handed in", n)
		}
	}
}

// fill writes into a list, and into its spare room.
func fill(ids []api.Id) {
	ids = ids[:cap(ids)]
	for i := range ids {
		ids[i] = api.Id{0xee, 0xee}
	}
}

func TestHas(t *testing.T) {
	up := rising()
	unsorted := []api.Id{up[9], up[3], up[20], up[3], up[1]}
	for _, x := range []struct {
		name string
		ids  []api.Id
		id   api.Id
		want bool
	}{
		{"nil", nil, up[1], false},
		{"none", []api.Id{}, up[1], false},
		{"the zero one of nil", nil, api.Id{}, false},
		{"the zero one of others", unsorted, api.Id{}, false},
		{"the zero one of itself", []api.Id{{}}, api.Id{}, true},
		{"one of itself", up[5:6], up[5], true},
		{"another of one", up[5:6], up[6], false},
		{"the first", unsorted, up[9], true},
		{"the last", unsorted, up[1], true},
		{"a middle one", unsorted, up[20], true},
		{"one that is there twice", unsorted, up[3], true},
		{"one that isn't there, between", unsorted, up[10], false},
		{"one that isn't there, behind all", unsorted, up[25], false},
		{"one in the spare room", unsorted[:2], up[20], false},
	} {
		if got := oid.Has(x.ids, x.id); got != x.want {
			t.Errorf("P4.1: Has, %s: %v", x.name, got)
		}
	}
	for place := range 32 {
		id := up[20]
		id[place] ^= 128
		if oid.Has(unsorted, id) {
			t.Errorf("P4.1: Has of one that is another at byte %d", place)
		}
	}
}

func TestHasOfMany(t *testing.T) {
	var ids []api.Id
	for i := range 1000 {
		ids = append(ids, api.Id{byte(i * 7), byte(i * 7 >> 8)})
	}
	before := slices.Clone(ids)
	for i := range ids {
		if !oid.Has(ids, ids[i]) || oid.Has(ids, api.Id{byte(i * 7), byte(i * 7 >> 8), 1}) {
			t.Fatalf("P4.1: Has of %x", ids[i])
		}
	}
	if !slices.Equal(ids, before) {
		t.Error("P0.3: Has changed what was handed in")
	}
}

func ExampleOf() {
	id := oid.Of(api.KBlob, "")
	fmt.Println(oid.Hex(id))
	// Output: 473a0f4c3be8a93681a267e3b1e9a7dcda1185436fe141f7749120a303721813
}

func ExampleSort() {
	for _, id := range oid.Sort(api.Id{3}, api.Id{1}, api.Id{3}) {
		fmt.Println(oid.Hex(id)[:2])
	}
	// Output:
	// 01
	// 03
}

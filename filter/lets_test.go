package filter_test

import (
	"math"
	"slices"
	"testing"

	"colporteur/api"
	"colporteur/filter"
)

// kinds are objects of each kind: a blob of no bytes, of 1, 10 and 1,000, trees,
// commits.
func kinds() (blobs, trees, commits []api.Object) {
	entry := api.Entry{Name: "a", Tree: true, Id: api.Id{1}}
	blobs = []api.Object{blobOf(""), blobOf("\x00"), blobOf(long(10)), blobOf("\xff" + long(999))}
	trees = []api.Object{treeOf(), treeOf(entry), treeOf(entry, api.Entry{Name: "b", Id: api.Id{1}})}
	commits = []api.Object{commitOf(api.Commit{}), commitOf(api.Commit{Tree: api.Id{1}, Parents: []api.Id{{2}, {1}}, When: 5, Note: long(100)})}
	return blobs, trees, commits
}

func someDepths() []int {
	return []int{0, 1, 2, 3, 9, 10, 11, 999, 1000, 1001, 1 << 40, math.MaxInt}
}

// lets asks that what Lets tells of each of os is want.
func lets(t *testing.T, f api.Filter, depth int, want bool, os ...api.Object) {
	t.Helper()
	for _, o := range os {
		if got := filter.Lets(f, o, depth); got != want {
			t.Errorf("P17.1: Lets of %v, %.60v, %d: %v", f, o, depth, got)
		}
	}
}

func TestLetsNothingBeLeftOut(t *testing.T) {
	blobs, trees, commits := kinds()
	for _, depth := range append(someDepths(), -1, math.MinInt) {
		lets(t, api.Filter{}, depth, true, slices.Concat(blobs, trees, commits)...)
	}
}

func TestLetsNoBlobs(t *testing.T) {
	blobs, trees, commits := kinds()
	for _, depth := range append(someDepths(), -1, math.MinInt) {
		lets(t, noBlobs(), depth, false, blobs...)
		lets(t, noBlobs(), depth, true, slices.Concat(trees, commits)...)
	}
}

func TestLetsCommitsAlways(t *testing.T) {
	_, _, commits := kinds()
	for _, f := range append(right(), wrong()...) {
		for _, depth := range append(someDepths(), -1, math.MinInt) {
			lets(t, f, depth, true, commits...)
		}
	}
}

func TestLetsBlobsOfFewerBytes(t *testing.T) {
	_, trees, commits := kinds()
	for _, x := range []struct {
		limit float64
		most  int // bytes of a blob that is let; -1: none is
	}{
		{0, -1}, {math.SmallestNonzeroFloat64, 0}, {0.001, 0}, {0.5, 0}, {math.Nextafter(1, 0), 0}, {1, 0}, {math.Nextafter(1, 2), 1}, {1.5, 1}, {2, 1}, {2.001, 2}, {9.999, 9}, {math.Nextafter(10, 0), 9}, {10, 9}, {math.Nextafter(10, 11), 10}, {10.5, 10}, {11, 10},
		{255, 254}, {256, 255}, {256.5, 256}, {257, 256}, {999, 998}, {999.5, 999}, {1000, 999}, {1000.25, 1000}, {1001, 1000}, {65536, 1000}, {999999.5, 1000}, {million, 1000},
	} {
		f := shorter(x.limit)
		for _, depth := range []int{0, 1, 2, 1000, 1001, math.MaxInt} {
			for size := range 1001 {
				lets(t, f, depth, size <= x.most, blobOf(long(size)))
			}
			lets(t, f, depth, true, slices.Concat(trees, commits)...)
		}
		// Bytes count, and no runes.
		if x.most >= 3 && x.most < 1000 {
			lets(t, f, 0, true, blobOf(long(x.most-3)+"\u20ac"))
			lets(t, f, 0, false, blobOf(long(x.most-2)+"\u20ac"))
		}
	}
}

func TestLetsWhatHasDepthBelow(t *testing.T) {
	blobs, trees, _ := kinds()
	os := append(blobs, trees...)
	for _, depth := range depths() {
		f := within(depth)
		for at := range depth {
			lets(t, f, at, true, os...)
		}
		lets(t, f, depth, false, os...)
		for _, at := range []int{depth + 1, depth + 2, depth + 1000, 1 << 32, 1<<32 + depth, math.MaxInt} {
			lets(t, f, at, false, os...)
		}
	}
}

// Of blobs above and at MaxBlob, which Lets takes as others.
func TestLetsOfLongBlobs(t *testing.T) {
	for _, size := range []int{1001, 5000, million - 1, million, million + 1} {
		o := blobOf(long(size))
		lets(t, shorter(million), 0, size < million, o)
		lets(t, shorter(1000), 0, false, o)
		lets(t, shorter(float64(min(size, million))), 0, false, o)
		lets(t, noBlobs(), 0, false, o)
		lets(t, api.Filter{}, 0, true, o)
		lets(t, within(1), 0, true, o)
	}
}

// What stands beside what is of an object's kind says nothing.
func TestLetsGoesByTheKind(t *testing.T) {
	tree := treeOf(api.Entry{Name: "a"})
	tree.Blob = long(50)
	commit := commitOf(api.Commit{Note: "n"})
	commit.Blob, commit.Entries = long(50), tree.Entries
	blob := blobOf("b")
	blob.Entries, blob.Commit.Note = tree.Entries, long(99)
	lets(t, noBlobs(), 0, true, tree, commit)
	lets(t, noBlobs(), 0, false, blob)
	lets(t, shorter(2), 0, true, tree, commit, blob)
	lets(t, shorter(1), 0, true, tree, commit)
	lets(t, shorter(1), 0, false, blob)
	lets(t, within(1), 1, false, tree, blob)
	lets(t, within(1), 1, true, commit)
}

// P0.1: whatever it is asked of.
func TestLetsOfAnything(t *testing.T) {
	blobs, trees, _ := kinds()
	os := slices.Concat(blobs, trees, wrongObjects())
	for _, f := range append(right(), wrong()...) {
		for _, depth := range append(someDepths(), -1, math.MinInt) {
			for _, o := range os {
				if got := filter.Lets(f, o, depth); got != filter.Lets(f, o, depth) {
					t.Errorf("P0.5: Lets of %v, %v, %d: %v, and otherwise", f, o, depth, got)
				}
			}
		}
	}
}

// wrongObjects are such as may not be.
func wrongObjects() []api.Object {
	return []api.Object{{}, {Kind: -1}, {Kind: 4, Blob: "b"}, {Kind: math.MaxInt}, {Kind: math.MinInt}, treeOf(make([]api.Entry, 30)...), commitOf(api.Commit{When: math.NaN()}), commitOf(api.Commit{Parents: make([]api.Id, 9)})}
}

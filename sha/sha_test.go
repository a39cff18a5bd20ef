package sha_test

import (
	"bytes"
	"crypto/sha256"
	"encoding/hex"
	"fmt"
	"slices"
	"strings"
	"testing"

	"colporteur/sha"
)

const ofNothing = "e3b0c44298fc1c149afbf4c8996fb92427ae41e4649b934ca495991b7852b855"

// edges are lengths around whole blocks, and around those at which the
// padding takes one block more.
var edges = []int{0, 1, 54, 55, 56, 57, 62, 63, 64, 65, 118, 119, 120, 121, 127, 128, 129, 183, 184, 191, 192, 193}

// text is n bytes that take every value and do not repeat with a block.
func text(n int) []byte {
	b := make([]byte, n)
	for i := range b {
		b[i] = byte(i*i*7 + i*31 + i>>8)
	}
	return b
}

func digits(sum [32]byte) string { return hex.EncodeToString(sum[:]) }

func TestSumOfKnownTexts(t *testing.T) {
	for _, c := range []struct{ name, text, want string }{
		{"nothing", "", ofNothing},
		{"a", "a", "ca978112ca1bbdcafac231b39a23dc4da786eff8147c4e72b9807785afee48bb"},
		{"abc", "abc", "ba7816bf8f01cfea414140de5dae2223b00361a396177a9cb410ff61f20015ad"},
		{"56 bytes", "abcdbcdecdefdefgefghfghighijhijkijkljklmklmnlmnomnopnopq",
			"248d6a61d20638b8e5c026930c3e6039a33ce45964ff2167f6ecedd419db06c1"},
		{"112 bytes", "abcdefghbcdefghicdefghijdefghijkefghijklfghijklmghijklmn" +
			"hijklmnoijklmnopjklmnopqklmnopqrlmnopqrsmnopqrstnopqrstu",
			"cf5b16a778af8380036ce59e7b0492370b249b11e8f07a51afac45037afee9d1"},
		{"a fox", "The quick brown fox jumps over the lazy dog",
			"d7a8fbb307d7809469ca9abcb0082e4f8d5651e46d3cdb762d02d0bf37c9e592"},
		{"a million", strings.Repeat("a", 1000000),
			"cdc76e5c9914fb9281a1c7e284d73e67f1809a48a497200e046d39ccc7112cd0"},
	} {
		if got := digits(sha.Sum([]byte(c.text))); got != c.want {
			t.Errorf("P1.1: Sum of %s: %s, not %s", c.name, got, c.want)
		}
	}
}

func TestSumOfAllLengths(t *testing.T) {
	for n := range 1100 {
		for _, b := range [][]byte{text(n), bytes.Repeat([]byte{0}, n), bytes.Repeat([]byte{0xff}, n)} {
			if got, want := sha.Sum(b), sha256.Sum256(b); got != want {
				t.Fatalf("P1.1: Sum of %d bytes: %x, not %x", n, got, want)
			}
		}
	}
}

func TestSumOfEachSingleByte(t *testing.T) {
	for v := range 256 {
		b := []byte{byte(v)}
		if got, want := sha.Sum(b), sha256.Sum256(b); got != want {
			t.Errorf("P1.1: Sum of the byte %d: %x, not %x", v, got, want)
		}
	}
}

// The length in bits takes more than four of its eight bytes from 2^29 bytes on.
func TestLengthAboveFourBytes(t *testing.T) {
	const whole = 1 << 29
	h, part := sha.New(), make([]byte, 1<<20)
	for range whole/len(part) - 1 {
		h.Put(part)
	}
	h.Put(part[1:])
	if got := digits(h.Sum()); got != "bf7f45d9df691bd277948d7f124b87a9f76e16ddb5d8fb25a49df939798f0a01" {
		t.Errorf("P1.1: 2^29 - 1 bytes: %s", got)
	}
	h.Put(part[:1])
	if got := digits(h.Sum()); got != "9acca8e8c22201155389f65abbf6bc9723edc7384ead80503839f49dcc56d767" {
		t.Errorf("P1.1: 2^29 bytes: %s", got)
	}
}

func TestPutInEqualParts(t *testing.T) {
	lengths := append([]int{7, 30, 300, 1000}, edges...)
	for _, n := range lengths {
		b := text(n)
		want := sha256.Sum256(b)
		for size := 1; size <= 200; size++ {
			h := sha.New()
			for part := range slices.Chunk(b, size) {
				h.Put(part)
			}
			if got := h.Sum(); got != want {
				t.Fatalf("P1.1: %d bytes in parts of %d: %x, not %x", n, size, got, want)
			}
		}
	}
}

func TestPutInThreeParts(t *testing.T) {
	b := text(200)
	want := sha256.Sum256(b)
	for i := range len(b) + 1 {
		for j := i; j <= len(b); j++ {
			h := sha.New()
			h.Put(b[:i])
			h.Put(b[i:j])
			h.Put(b[j:])
			if got := h.Sum(); got != want {
				t.Fatalf("P1.1: %d bytes parted at %d and %d: %x, not %x", len(b), i, j, got, want)
			}
		}
	}
}

func TestSumBetweenPuts(t *testing.T) {
	b := text(700)
	for _, size := range []int{1, 3, 7, 55, 56, 63, 64, 65, 128, 129} {
		h, n := sha.New(), 0
		for part := range slices.Chunk(b, size) {
			h.Put(part)
			n += len(part)
			want := sha256.Sum256(b[:n])
			for k := range 3 {
				if got := h.Sum(); got != want {
					t.Fatalf("P1.1: parts of %d, %d bytes so far, Sum asked for the %d. time: %x, not %x", size, n, k+1, got, want)
				}
			}
		}
	}
}

func TestSumAheadOfAllPuts(t *testing.T) {
	for _, n := range edges {
		h := sha.New()
		if got := digits(h.Sum()); got != ofNothing {
			t.Fatalf("P1.1: Sum of a new Hash: %s", got)
		}
		b := text(n)
		h.Put(b)
		if got, want := h.Sum(), sha256.Sum256(b); got != want {
			t.Errorf("P1.1: %d bytes Put behind a Sum: %x, not %x", n, got, want)
		}
	}
}

func TestNilAndEmptyLists(t *testing.T) {
	if digits(sha.Sum(nil)) != ofNothing || digits(sha.Sum([]byte{})) != ofNothing {
		t.Error("P1.1, P0.4: Sum of a nil or an empty list")
	}
	for _, n := range edges {
		b := text(n)
		h := sha.New()
		for _, part := range [][]byte{nil, b[:n/2], {}, nil, b[n/2:], nil, {}} {
			h.Put(part)
		}
		if got, want := h.Sum(), sha256.Sum256(b); got != want {
			t.Errorf("P1.1, P0.4: %d bytes, nil and empty lists between: %x, not %x", n, got, want)
		}
	}
}

func TestNilHash(t *testing.T) {
	var none *sha.Hash
	if got := digits(none.Sum()); got != ofNothing {
		t.Errorf("P1.1: Sum of a nil Hash: %s", got)
	}
	for _, b := range [][]byte{nil, {}, text(1), text(64), text(1000)} {
		none.Put(b)
		if got := digits(none.Sum()); got != ofNothing {
			t.Errorf("P1.1: Sum of a nil Hash, %d bytes Put: %s", len(b), got)
		}
	}
}

func TestZeroHash(t *testing.T) {
	for _, n := range edges {
		b := text(n)
		var h sha.Hash
		if got := digits(h.Sum()); got != ofNothing {
			t.Fatalf("P1.1: Sum of a zero Hash: %s", got)
		}
		h.Put(b)
		if got, want := h.Sum(), sha256.Sum256(b); got != want {
			t.Errorf("P1.1: a zero Hash, %d bytes: %x, not %x", n, got, want)
		}
	}
}

func TestListsAreNotChanged(t *testing.T) {
	for _, n := range edges {
		all := text(n + 200)
		b := all[:n]
		sha.Sum(b)
		h := sha.New()
		h.Put(b[:n/2])
		h.Sum()
		h.Put(b[n/2:])
		h.Sum()
		if !bytes.Equal(all, text(n+200)) {
			t.Errorf("P0.3: a list of %d bytes, or its spare room, was changed", n)
		}
	}
}

func TestListsAreNotKept(t *testing.T) {
	for _, n := range edges {
		b := text(n)
		h := sha.New()
		h.Put(b)
		clear(b)
		if got, want := h.Sum(), sha256.Sum256(text(n)); got != want {
			t.Errorf("P0.3: %d bytes, written over behind Put: %x, not %x", n, got, want)
		}
	}
}

func TestAnswersAreNewMemory(t *testing.T) {
	b := text(100)
	want := sha256.Sum256(b)
	h := sha.New()
	h.Put(b)
	first, other := h.Sum(), sha.Sum(b)
	clear(first[:])
	clear(other[:])
	if h.Sum() != want || sha.Sum(b) != want {
		t.Error("P0.3: writing into an answer changed a later one")
	}
}

func TestHashesStandAlone(t *testing.T) {
	var hs []*sha.Hash
	for range edges {
		hs = append(hs, sha.New())
	}
	// Each gets its bytes one by one, in turn with all others.
	for i := range slices.Max(edges) {
		for k, n := range edges {
			if i < n {
				hs[k].Put(text(n)[i : i+1])
			}
		}
	}
	for k, n := range edges {
		if got, want := hs[k].Sum(), sha256.Sum256(text(n)); got != want {
			t.Errorf("P0.5: %d bytes Put in turn with other Hashes: %x, not %x", n, got, want)
		}
	}
}

func ExampleHash() {
	h := sha.New()
	h.Put([]byte("a"))
	h.Put([]byte("bc"))
	fmt.Printf("%x\n", h.Sum())
	// Output: ba7816bf8f01cfea414140de5dae2223b00361a396177a9cb410ff61f20015ad
}

package vary_test

import (
	"fmt"
	"math"
	"slices"
	"strconv"
	"strings"
	"testing"

	"colporteur/api"
	"colporteur/guard"
	"colporteur/vary"
)

// kinds are all that there are.
var kinds = []int{1, 2, 3, 6, 7}

// noKinds are none: they lie below, between and above those that are, some of
// them with the same low bits.
var noKinds = []int{
	0, -1, -2, -3, -7, -8, 4, 5, 8, 9, 10, 11, 14, 15, 16, 17, 22, 23, 100, 127, 128, 129, 134, 135, 255, 256, 257, 258, 259, 262, 263,
	1<<16 + 1, 1<<28 + 1, 1<<32 + 1, 1<<32 + 2, 1<<32 + 3, 1<<32 + 6, 1<<32 + 7, -1<<32 + 1, 1<<60 + 1, 1<<60 + 7, -1<<60 + 6,
	math.MaxInt32, math.MinInt32, math.MaxInt, math.MaxInt - 1, math.MinInt, math.MinInt + 1, math.MinInt + 2, math.MinInt + 3, math.MinInt + 6, math.MinInt + 7,
}

// numbers are such that may be: those beside each width, of a head's size and
// of a number alone, and others.
func numbers() []int {
	found := []int{0, 1, 2, 300, 1000, 4321, 65535, 65536, 100000, 524287, 524288, 777777, 999998, 999999, 1000000}
	for width := 1; width < 20; width++ {
		found = append(found, 1<<width-1, 1<<width, 1<<width+1, 1<<width|1<<(width/2))
	}
	return found
}

// noNumbers are out of range, some of them with low bits of one that is not.
var noNumbers = []int{
	-1, -2, -15, -16, -127, -128, -1000000, -1000001, 1000001, 1000002, 1<<20 - 1, 1 << 20, 1<<20 + 5, 1<<21 - 1, 1 << 21, 1<<25 - 1, 1 << 25, 1<<28 + 1, 1<<31 - 1, 1 << 31, 1<<32 + 300,
	-1 << 31, -1<<32 + 1, 1<<63 - 1, 1 << 62, 1<<62 + 1, math.MaxInt - 1, math.MinInt, math.MinInt + 1, math.MinInt + 300,
}

// plain is n, put together anew from its binary digits: so many in the first
// byte, seven in each of the others; ahead of those of the first byte stand the
// three digits of a kind, if there is one.
func plain(kind string, n, first int) string {
	digits := strconv.FormatInt(int64(n), 2)
	var found []byte
	for width := first; digits != "" || found == nil; width = 7 {
		digits = strings.Repeat("0", max(0, width-len(digits))) + digits
		cut := len(digits) - width
		low, _ := strconv.ParseUint(kind+digits[cut:], 2, 8)
		found = append(found, byte(low)|0x80)
		digits, kind = strings.TrimLeft(digits[:cut], "0"), ""
	}
	found[len(found)-1] &= 0x7f
	return string(found)
}

func plainHead(kind, size int) string { return plain(fmt.Sprintf("%03b", kind), size, 4) }

func plainNumber(n int) string { return plain("", n, 7) }

// readHead is what GetHead reads, and how it Fails.
func readHead(r *guard.Reader) (kind, size int, e api.Errno) {
	kind, size = -1, -1
	e = guard.Do(func() { kind, size = vary.GetHead(r) })
	return kind, size, e
}

// read is what Get reads, and how it Fails.
func read(r *guard.Reader) (n int, e api.Errno) {
	n = -1
	e = guard.Do(func() { n = vary.Get(r) })
	return n, e
}

func reader(s string) *guard.Reader { return guard.New([]byte(s)) }

// failsHead asks that GetHead Fails so.
func failsHead(t *testing.T, s string, want api.Errno) {
	t.Helper()
	if kind, size, e := readHead(reader(s)); e != want || kind != -1 || size != -1 {
		t.Errorf("P9.1: GetHead of %x: %d, %d, %d, not %d", s, kind, size, e, want)
	}
}

// fails asks that Get Fails so.
func fails(t *testing.T, s string, want api.Errno) {
	t.Helper()
	if n, e := read(reader(s)); e != want || n != -1 {
		t.Errorf("P9.1: Get of %x: %d, %d, not %d", s, n, e, want)
	}
}

func TestKinds(t *testing.T) {
	for kind := -300; kind <= 300; kind++ {
		if got, want := vary.Kinds(kind), slices.Contains(kinds, kind); got != want {
			t.Errorf("P9.1: Kinds of %d: %v", kind, got)
		}
	}
	for _, kind := range noKinds {
		if vary.Kinds(kind) {
			t.Errorf("P9.1: Kinds of %d: true", kind)
		}
	}
}

func TestHead(t *testing.T) {
	for _, kind := range kinds {
		for _, size := range numbers() {
			if got, ok := vary.Head(kind, size); !ok || got != plainHead(kind, size) {
				t.Errorf("P9.1: Head of %d, %d: %x, %v, not %x", kind, size, got, ok, plainHead(kind, size))
			}
		}
	}
	for _, x := range []struct {
		kind, size int
		want       string
	}{
		{1, 0, "\x10"}, {2, 0, "\x20"}, {3, 0, "\x30"}, {6, 0, "\x60"}, {7, 0, "\x70"},
		{1, 15, "\x1f"}, {1, 16, "\x90\x01"}, {7, 15, "\x7f"}, {7, 16, "\xf0\x01"}, {6, 17, "\xe1\x01"},
		{2, 2047, "\xaf\x7f"}, {2, 2048, "\xa0\x80\x01"}, {3, 262143, "\xbf\xff\x7f"}, {3, 262144, "\xb0\x80\x80\x01"},
		{1, 999999, "\x9f\xa3\xe8\x03"}, {1, 1000000, "\x90\xa4\xe8\x03"}, {7, 1000000, "\xf0\xa4\xe8\x03"},
	} {
		if got, ok := vary.Head(x.kind, x.size); !ok || got != x.want {
			t.Errorf("P9.1: Head of %d, %d: %x, %v, not %x", x.kind, x.size, got, ok, x.want)
		}
	}
}

func TestHeadOfWrong(t *testing.T) {
	check := func(kind, size int) {
		if got, ok := vary.Head(kind, size); got != "" || ok {
			t.Errorf("P0.2, P9.1: Head of %d, %d: %x, %v", kind, size, got, ok)
		}
	}
	for _, kind := range noKinds {
		for _, size := range append(numbers(), noNumbers...) {
			check(kind, size)
		}
	}
	for _, kind := range kinds {
		for _, size := range noNumbers {
			check(kind, size)
		}
	}
}

func TestPut(t *testing.T) {
	for _, n := range numbers() {
		if got, ok := vary.Put(n); !ok || got != plainNumber(n) {
			t.Errorf("P9.1: Put of %d: %x, %v, not %x", n, got, ok, plainNumber(n))
		}
	}
	for _, x := range []struct {
		n    int
		want string
	}{
		{0, "\x00"}, {1, "\x01"}, {127, "\x7f"}, {128, "\x80\x01"}, {129, "\x81\x01"}, {300, "\xac\x02"}, {16383, "\xff\x7f"}, {16384, "\x80\x80\x01"},
		{999999, "\xbf\x84\x3d"}, {1000000, "\xc0\x84\x3d"},
	} {
		if got, ok := vary.Put(x.n); !ok || got != x.want {
			t.Errorf("P9.1: Put of %d: %x, %v, not %x", x.n, got, ok, x.want)
		}
	}
}

func TestPutOfWrong(t *testing.T) {
	for _, n := range noNumbers {
		if got, ok := vary.Put(n); got != "" || ok {
			t.Errorf("P0.2, P9.1: Put of %d: %x, %v", n, got, ok)
		}
	}
}

// behinds are what may stand behind a number: it is not looked at.
func behinds() []string {
	return []string{"", "\x00", "\x80", "\xff", "\x01", "\x10", "\x90", "z", "\x00\x00\x00\x00", "\xff\xff\xff\xff\xff\xff", strings.Repeat("\x80", 50), strings.Repeat("z", 1000)}
}

func TestGetHead(t *testing.T) {
	for _, kind := range kinds {
		for _, size := range numbers() {
			s := plainHead(kind, size)
			for _, behind := range behinds() {
				r := reader(s + behind)
				gotKind, gotSize, e := readHead(r)
				if gotKind != kind || gotSize != size || e != api.OK {
					t.Fatalf("P9.1: GetHead of %x: %d, %d, %d", s, gotKind, gotSize, e)
				}
				if got := string(r.Bytes(r.Left())); got != behind {
					t.Fatalf("P9.1: what GetHead of %x leaves of %x: %x", s, behind, got)
				}
			}
		}
	}
}

func TestGet(t *testing.T) {
	for _, n := range numbers() {
		s := plainNumber(n)
		for _, behind := range behinds() {
			r := reader(s + behind)
			if got, e := read(r); got != n || e != api.OK {
				t.Fatalf("P9.1: Get of %x: %d, %d", s, got, e)
			}
			if got := string(r.Bytes(r.Left())); got != behind {
				t.Fatalf("P9.1: what Get of %x leaves of %x: %x", s, behind, got)
			}
		}
	}
}

// Every number that there is, in heads of kinds in turn and alone, and back.
func TestThereAndBackOfAll(t *testing.T) {
	for n := range 1000001 {
		kind := kinds[n%len(kinds)]
		head, headOk := vary.Head(kind, n)
		alone, ok := vary.Put(n)
		if !headOk || !ok || len(head) != len(plainHead(1, n)) || len(alone) != len(plainNumber(n)) {
			t.Fatalf("P9.1: Head and Put of %d: %x, %v, %x, %v", n, head, headOk, alone, ok)
		}
		r := reader(head + alone)
		gotKind, size := vary.GetHead(r)
		if got := vary.Get(r); gotKind != kind || size != n || got != n || r.Left() != 0 {
			t.Fatalf("P9.1: back from %x%x: %d, %d, %d, left: %d", head, alone, gotKind, size, got, r.Left())
		}
	}
}

// Numbers one behind the other are read from one reader, each from where the
// one ahead of it ended; at the end there is none.
func TestOneBehindTheOther(t *testing.T) {
	var all strings.Builder
	for i, n := range numbers() {
		head, _ := vary.Head(kinds[i%len(kinds)], n)
		alone, _ := vary.Put(n)
		all.WriteString(head + alone + alone)
	}
	r := reader(all.String())
	for i, n := range numbers() {
		kind, size, e := readHead(r)
		if kind != kinds[i%len(kinds)] || size != n || e != api.OK {
			t.Fatalf("P9.1: the head of %d among others: %d, %d, %d", n, kind, size, e)
		}
		for range 2 {
			if got, e := read(r); got != n || e != api.OK {
				t.Fatalf("P9.1: %d among others: %d, %d", n, got, e)
			}
		}
	}
	failAtTheEnd(t, "one that was read to its end", r)
}

// failAtTheEnd asks that nothing is read from r any more, however often.
func failAtTheEnd(t *testing.T, name string, r *guard.Reader) {
	t.Helper()
	for range 2 {
		if n, e := read(r); n != -1 || e != api.ErrMore || r.Left() != 0 {
			t.Errorf("P9.1: Get of %s: %d, %d, left: %d", name, n, e, r.Left())
		}
		if kind, size, e := readHead(r); kind != -1 || size != -1 || e != api.ErrMore || r.Left() != 0 {
			t.Errorf("P9.1: GetHead of %s: %d, %d, %d, left: %d", name, kind, size, e, r.Left())
		}
	}
}

func TestOfNoBytes(t *testing.T) {
	failAtTheEnd(t, "a nil Reader", nil)
	failAtTheEnd(t, "a zero Reader", &guard.Reader{})
	failAtTheEnd(t, "New(nil)", guard.New(nil))
	failAtTheEnd(t, "New of an empty list", guard.New([]byte{}))
	r := guard.New([]byte("abc"))
	r.Bytes(3)
	failAtTheEnd(t, "one whose bytes were taken", r)
}

func TestCutOff(t *testing.T) {
	for _, n := range numbers() {
		s := plainNumber(n)
		for end := range len(s) {
			fails(t, s[:end], api.ErrMore)
		}
		for _, kind := range kinds {
			s := plainHead(kind, n)
			for end := range len(s) {
				failsHead(t, s[:end], api.ErrMore)
			}
		}
	}
}

// goesOn is s with the highest bit of its last byte set: another one follows.
func goesOn(s string) string {
	return s[:len(s)-1] + string([]byte{s[len(s)-1] | 0x80})
}

// A last byte of noughts is one too many, however many of noughts stand ahead
// of it.
func TestNotAsFewAsMayBe(t *testing.T) {
	for _, n := range numbers() {
		for noughts := range 12 {
			behind := strings.Repeat("\x80", noughts) + "\x00"
			for _, further := range []string{"", "\x01", "\x80", "z"} {
				fails(t, goesOn(plainNumber(n))+behind+further, api.ErrForm)
				for _, kind := range kinds {
					failsHead(t, goesOn(plainHead(kind, n))+behind+further, api.ErrForm)
				}
			}
		}
	}
	for _, s := range []string{"\x80\x00", "\xff\x00", "\x80\x80\x00", "\xff\xff\x00", "\xc0\x84\x00"} {
		fails(t, s, api.ErrForm)
	}
	for _, s := range []string{"\x90\x00", "\xff\x00", "\x90\x80\x00", "\x9f\xff\x00", "\x90\x80\x80\x00", "\x90\xa4\xe8\x00"} {
		failsHead(t, s, api.ErrForm)
	}
}

// A byte of noughts ahead of one that is none is as it may be.
func TestNoughtsBetween(t *testing.T) {
	for s, want := range map[string]int{"\x80\x01": 1 << 7, "\x80\x80\x01": 1 << 14, "\x80\x80\x3d": 61 << 14, "\x81\x80\x01": 1<<14 + 1, "\x00": 0} {
		if n, e := read(reader(s)); n != want || e != api.OK {
			t.Errorf("P9.1: Get of %x: %d, %d", s, n, e)
		}
	}
	for s, want := range map[string]int{"\x90\x01": 1 << 4, "\x90\x80\x01": 1 << 11, "\x90\x80\x80\x01": 1 << 18, "\x91\x80\x80\x03": 3<<18 + 1, "\x10": 0} {
		if kind, size, e := readHead(reader(s)); kind != 1 || size != want || e != api.OK {
			t.Errorf("P9.1: GetHead of %x: %d, %d, %d", s, kind, size, e)
		}
	}
}

// above are too great, just so and by much.
var above = []int{
	1000001, 1000002, 1000015, 1000016, 1000127, 1000128, 1001000, 1<<20 - 1, 1 << 20, 1<<20 + 1, 1<<21 - 1, 1 << 21, 1<<25 - 1, 1 << 25, 1 << 28, 1<<31 - 1, 1 << 31, 1 << 32, 1<<32 + 300, 1 << 39,
	1 << 46, 1 << 53, 1 << 60, 1 << 62, 1<<62 + 300, math.MaxInt,
}

func TestAbove(t *testing.T) {
	for _, n := range above {
		for _, behind := range []string{"", "\x00", "\x80", "z", "\x10"} {
			fails(t, plainNumber(n)+behind, api.ErrForm)
			for _, kind := range kinds {
				failsHead(t, plainHead(kind, n)+behind, api.ErrForm)
			}
		}
	}
	for _, s := range []string{"\xc1\x84\x3d", "\xc0\x85\x3d", "\xc0\x84\x3e", "\xff\xff\x3d", "\x80\x80\x3e", "\xff\xff\x7f", "\x80\x80\x7f", "\x80\x80\x40"} {
		fails(t, s, api.ErrForm)
	}
	for _, s := range []string{"\x91\xa4\xe8\x03", "\x90\xa5\xe8\x03", "\x90\xa4\xe9\x03", "\x90\xa4\xe8\x04", "\x9f\xff\xff\x03", "\x90\x80\x80\x04", "\x90\x80\x80\x7f", "\xff\xff\xff\x7f", "\x90\x80\x80\x40"} {
		failsHead(t, s, api.ErrForm)
	}
}

// Many bytes with the highest bit set, cut off behind each and with an end:
// those that a number begins with are missing some, behind them nothing can be.
func TestManyThatGoOn(t *testing.T) {
	want := func(n, most int) api.Errno {
		if n <= most {
			return api.ErrMore
		}
		return api.ErrForm
	}
	for _, b := range []string{"\x80", "\x81", "\xbf", "\xc0", "\xfe", "\xff"} {
		for _, n := range []int{1, 2, 3, 4, 5, 6, 7, 8, 9, 10, 11, 12, 18, 19, 20, 64, 1000, 1 << 20} {
			many := strings.Repeat(b, n)
			fails(t, many, want(n, 2))
			for _, kind := range kinds {
				failsHead(t, goesOn(plainHead(kind, 0))+many, want(n, 2))
				failsHead(t, goesOn(plainHead(kind, 15))+many, want(n, 2))
			}
			for _, end := range []string{"\x00", "\x01", "\x02", "\x3d", "\x7f"} {
				if n >= 3 {
					fails(t, many+end, api.ErrForm)
				}
				if n >= 4 {
					failsHead(t, "\x9f"+many+end, api.ErrForm)
				}
			}
		}
	}
}

// A kind that is none is told ahead of all that is wrong or missing behind it.
func TestGetHeadOfNoKind(t *testing.T) {
	for _, kind := range []int{0, 4, 5} {
		for low := range 16 {
			for _, behind := range []string{"", "\x00", "\x01", "\x80", "\x80\x80", "\x80\x80\x00", "\xff\xff\xff\xff", "\x80\x80\x80\x80\x01", "z"} {
				failsHead(t, string([]byte{byte(kind<<4 | low)})+behind, api.ErrForm)
				failsHead(t, string([]byte{byte(kind<<4 | low | 0x80)})+behind, api.ErrForm)
			}
		}
	}
}

// A byte that can't be is told ahead of a later one that is missing, also where
// it is the highest bit alone that can't be: nothing that follows is small enough.
func TestWrongAheadOfMissing(t *testing.T) {
	for _, s := range []string{"\x80\x80\x80", "\xff\xff\xff", "\x80\x80\xbe", "\xc1\x84\xbd", "\xc0\x84\xbd", "\x81\x81\x81", "\x80\x80\x81"} {
		fails(t, s, api.ErrForm)
		fails(t, s+"\x80", api.ErrForm)
		fails(t, s[:2], api.ErrMore)
	}
	for _, s := range []string{"\x90\x80\x80\x80", "\x9f\xff\xff\xff", "\x90\x80\x80\x84", "\x91\xa4\xe8\x83", "\x90\xa4\xe8\x83", "\x91\x81\x81\x81", "\x90\x80\x80\x81"} {
		failsHead(t, s, api.ErrForm)
		failsHead(t, s+"\x80", api.ErrForm)
		failsHead(t, s[:3], api.ErrMore)
	}
	failsHead(t, "\x80", api.ErrForm)
	failsHead(t, "\xc0", api.ErrForm)
	failsHead(t, "\x90", api.ErrMore)
	fails(t, "\x80", api.ErrMore)
}

// begins are all texts that a right one is, or begins with: how many bytes are
// still missing at least, 0 of a whole one.
func begins(put func(n int) string) map[string]int {
	found := map[string]int{}
	for n := range 1000001 {
		s := put(n)
		for end := range len(s) + 1 {
			if missing, ok := found[s[:end]]; !ok || missing > len(s)-end {
				found[s[:end]] = len(s) - end
			}
		}
	}
	return found
}

// meet is what is to be read of s, if right are what texts begin with: how many
// bytes a whole text takes; or the error of the first byte that can't be or is
// missing.
func meet(right map[string]int, s string) (int, api.Errno) {
	for end := range len(s) + 1 {
		missing, ok := right[s[:end]]
		if !ok {
			return 0, api.ErrForm
		}
		if missing == 0 {
			return end, api.OK
		}
	}
	return 0, api.ErrMore
}

// lasts are bytes beside all edges of later bytes.
func lasts() []byte {
	found := []byte{}
	for _, b := range []byte{0, 1, 2, 3, 4, 5, 0x10, 0x24, 0x3c, 0x3d, 0x3e, 0x40, 0x64, 0x68, 0x7e, 0x7f} {
		found = append(found, b, b|0x80)
	}
	return found
}

// Texts of two bytes, all of them, and bytes of edges behind: each is read as
// the texts of all numbers say.
func TestGetOfEachText(t *testing.T) {
	right := begins(plainNumber)
	check := func(s string) {
		size, want := meet(right, s)
		r := reader(s)
		n, e := read(r)
		if e != want {
			t.Errorf("P9.1: Get of %x: %d, not %d", s, e, want)
		}
		if e == api.OK && (r.Left() != len(s)-size || plainNumber(n) != s[:size]) {
			t.Errorf("P9.1: Get of %x: %d, left: %d", s, n, r.Left())
		}
	}
	check("")
	for one := range 256 {
		check(string([]byte{byte(one)}))
		for two := range 256 {
			check(string([]byte{byte(one), byte(two)}))
			for _, three := range lasts() {
				check(string([]byte{byte(one), byte(two), three}))
			}
		}
	}
}

func TestGetHeadOfEachText(t *testing.T) {
	right := begins(func(n int) string { return plainHead(1, n) })
	check := func(s string) {
		first := s[0] >> 4 & 7
		size, want := meet(right, string([]byte{s[0]&0x8f | 0x10})+s[1:])
		if !slices.Contains(kinds, int(first)) {
			want = api.ErrForm
		}
		r := reader(s)
		kind, n, e := readHead(r)
		if e != want {
			t.Errorf("P9.1: GetHead of %x: %d, not %d", s, e, want)
		}
		if e == api.OK && (r.Left() != len(s)-size || kind != int(first) || plainHead(kind, n) != s[:size]) {
			t.Errorf("P9.1: GetHead of %x: %d, %d, left: %d", s, kind, n, r.Left())
		}
	}
	for one := range 256 {
		check(string([]byte{byte(one)}))
		for two := range 256 {
			check(string([]byte{byte(one), byte(two)}))
			for _, three := range lasts() {
				check(string([]byte{byte(one), byte(two), three}))
			}
		}
	}
	for _, one := range []byte{0x90, 0x91, 0x9f, 0xff, 0xe0} {
		for _, two := range lasts() {
			for _, three := range lasts() {
				for four := range 256 {
					check(string([]byte{one, two, three, byte(four)}))
				}
			}
		}
	}
}

// What they Fail with panics as a fault, where no Do stands around it.
func TestFailsByAFault(t *testing.T) {
	fall := func(f func()) (x any) {
		defer func() { x = recover() }()
		f()
		return nil
	}
	for s, want := range map[string]api.Errno{"": api.ErrMore, "\x90": api.ErrMore, "\x90\x00": api.ErrForm, "\xff\xff\xff\xff": api.ErrForm} {
		if x := fall(func() { vary.Get(reader(s)) }); x != any(api.Fault{Code: want}) {
			t.Errorf("P9.1: Get of %x panics with %#v", s, x)
		}
		if x := fall(func() { vary.GetHead(reader(s)) }); x != any(api.Fault{Code: want}) {
			t.Errorf("P9.1: GetHead of %x panics with %#v", s, x)
		}
	}
}

// A call keeps nothing of an earlier one, be that one of the same reader or one
// that Failed.
func TestCallsStandAlone(t *testing.T) {
	one, other := reader("\xac\x02\xec\x12"), reader("\xac\x02\xec\x12")
	for _, s := range []string{"\xff\xff\xff", "\xff", "\x80\x00", ""} {
		read(reader(s))
		readHead(reader(s))
	}
	if n, e := read(one); n != 300 || e != api.OK || other.Left() != 4 {
		t.Errorf("P0.5: Get behind faults: %d, %d, left of another reader: %d", n, e, other.Left())
	}
	read(reader("\xff"))
	if kind, size, e := readHead(one); kind != 6 || size != 300 || e != api.OK || other.Left() != 4 {
		t.Errorf("P0.5: GetHead behind faults: %d, %d, %d, left of another reader: %d", kind, size, e, other.Left())
	}
	if n, e := read(other); n != 300 || e != api.OK {
		t.Errorf("P0.5: Get of another reader: %d, %d", n, e)
	}
	if got, ok := vary.Put(300); got != "\xac\x02" || !ok {
		t.Errorf("P0.5: Put behind faults: %x, %v", got, ok)
	}
}

func ExamplePut() {
	s, ok := vary.Put(300)
	fmt.Printf("%x %v\n", s, ok)
	_, ok = vary.Put(1000001)
	fmt.Println(ok)
	// Output:
	// ac02 true
	// false
}

func ExampleHead() {
	s, ok := vary.Head(6, 300)
	fmt.Printf("%x %v\n", s, ok)
	// Output: ec12 true
}

func ExampleGetHead() {
	r := guard.New([]byte("\xec\x12\xac\x02\xac"))
	kind, size := vary.GetHead(r)
	fmt.Println(kind, size, vary.Get(r), r.Left())
	e := guard.Do(func() { vary.Get(r) })
	fmt.Println(e == api.ErrMore)
	// Output:
	// 6 300 300 1
	// true
}

package line_test

import (
	"fmt"
	"slices"
	"strings"
	"testing"

	"colporteur/api"
	"colporteur/line"
)

// bytesOf are n bytes: all of them, over and over.
func bytesOf(n int) string {
	b := make([]byte, n)
	for i := range b {
		b[i] = byte(i*7 + i/256)
	}
	return string(b)
}

// texts are what a line may hold.
func texts() []string {
	found := []string{"a", "\n", "\x00", "\xff", "0", "0000", "0001", "0005a", "abc\n", "größer", "\xc3 not UTF-8 \x80"}
	for b := range 256 {
		found = append(found, string([]byte{byte(b)}))
	}
	for _, n := range []int{2, 11, 12, 13, 251, 252, 253, 255, 256, 257, 507, 508, 764, 987, 988, 998, 999, 1000} {
		found = append(found, strings.Repeat("x", n), bytesOf(n))
	}
	return found
}

// put is the line of a text that may be one.
func put(t *testing.T, s string) string {
	t.Helper()
	got, ok := line.Put(s)
	if !ok {
		t.Fatalf("P5.1: Put of %d bytes: none", len(s))
	}
	return got
}

func TestPut(t *testing.T) {
	for _, s := range texts() {
		if got, want := put(t, s), fmt.Sprintf("%04x%s", len(s)+4, s); got != want {
			t.Errorf("P5.1: Put of %d bytes: %.20q, not %.20q", len(s), got, want)
		}
	}
}

func TestPutOfEachLength(t *testing.T) {
	for n := range 1100 {
		want, right := fmt.Sprintf("%04x%s", n+4, bytesOf(n)), n >= 1 && n <= 1000
		if !right {
			want = ""
		}
		if got, ok := line.Put(bytesOf(n)); got != want || ok != right {
			t.Errorf("P5.1, P0.2: Put of %d bytes: %.20q, %v", n, got, ok)
		}
	}
	for _, n := range []int{2000, 4096, 65531, 65532, 65536, 65537, 1 << 20} {
		if got, ok := line.Put(bytesOf(n)); got != "" || ok {
			t.Errorf("P5.1, P0.2: Put of %d bytes: %.20q, %v", n, got, ok)
		}
	}
}

func TestFlushAndDelim(t *testing.T) {
	if got := line.Flush(); got != "0000" {
		t.Errorf("P5.1: Flush: %q", got)
	}
	if got := line.Delim(); got != "0001" {
		t.Errorf("P5.1: Delim: %q", got)
	}
}

// check holds what Get tells of s against what it is to tell.
func check(t *testing.T, s string, kind int, text string, n int, e api.Errno) {
	t.Helper()
	gotKind, gotText, gotN, gotE := line.Get(s)
	if gotKind != kind || gotText != text || gotN != n || gotE != e {
		t.Errorf("P5.1: Get of %d bytes, %.20q: %d, %.20q, %d, %d, not %d, %.20q, %d, %d", len(s), s,
			gotKind, gotText, gotN, gotE, kind, text, n, e)
	}
}

// behinds are what may stand behind a line: Get does not look at it.
func behinds() []string {
	return []string{"", "0", "000", "0000", "0001", "0005a", "0002", "zzzz", "\x00", "\xff\xff\xff\xff\xff", " ", "\n", strings.Repeat("y", 2000)}
}

func TestGet(t *testing.T) {
	for _, behind := range behinds() {
		check(t, "0000"+behind, 2, "", 4, api.OK)
		check(t, "0001"+behind, 3, "", 4, api.OK)
		for _, s := range texts() {
			check(t, put(t, s)+behind, 1, s, len(s)+4, api.OK)
		}
	}
}

func TestGetCutOff(t *testing.T) {
	whole := []string{line.Flush(), line.Delim()}
	for _, s := range texts() {
		whole = append(whole, put(t, s))
	}
	for _, s := range whole {
		for n := range len(s) {
			check(t, s[:n], 0, "", 0, api.ErrMore)
		}
	}
}

// Every four digits, with enough behind them for the longest line.
func TestGetOfEachLength(t *testing.T) {
	behind := bytesOf(1100)
	for size := range 1 << 16 {
		s := fmt.Sprintf("%04x%s", size, behind)
		switch {
		case size == 0:
			check(t, s, 2, "", 4, api.OK)
		case size == 1:
			check(t, s, 3, "", 4, api.OK)
		case size <= 4 || size > 0x3ec:
			check(t, s, 0, "", 0, api.ErrForm)
			check(t, s[:4], 0, "", 0, api.ErrForm)
		default:
			check(t, s, 1, behind[:size-4], size, api.OK)
			check(t, s[:4], 0, "", 0, api.ErrMore)
			check(t, s[:size-1], 0, "", 0, api.ErrMore)
			check(t, s[:size], 1, behind[:size-4], size, api.OK)
		}
	}
}

// Every text of up to three digits: a beginning, if one of the lengths that
// there are begins with it.
func TestGetOfFewDigits(t *testing.T) {
	begins := map[string]bool{"": true}
	for size := range 0x3ec + 1 {
		s := fmt.Sprintf("%04x", size)
		for n := range 4 {
			begins[s[:n]] = true
		}
	}
	for n := range 4 {
		for size := range 1 << (4 * n) {
			s := fmt.Sprintf("%0*x", n, size)[:n]
			want := api.ErrForm
			if begins[s] {
				want = api.ErrMore
			}
			check(t, s, 0, "", 0, want)
		}
	}
}

// Every byte at every place of the digits, with all that follows and cut off
// right behind it.
func TestGetOfEachSign(t *testing.T) {
	for _, digits := range []string{"0000", "0001", "0005", "000a", "00ff", "01c3", "03eb"} {
		for place := range 4 {
			for b := range 256 {
				if strings.IndexByte("0123456789abcdef", byte(b)) >= 0 {
					continue
				}
				s := digits[:place] + string([]byte{byte(b)}) + digits[place+1:]
				check(t, s+bytesOf(1100), 0, "", 0, api.ErrForm)
				check(t, s, 0, "", 0, api.ErrForm)
				check(t, s[:place+1], 0, "", 0, api.ErrForm)
			}
		}
	}
}

func TestGetOfNoLine(t *testing.T) {
	for _, s := range []string{
		"0002", "0003", "0004", "0002a", "0003a", "0004a", "0002" + bytesOf(50), "0003" + bytesOf(50), "0004" + bytesOf(50),
		"03ed", "03ed" + bytesOf(1100), "03ee", "03f", "03f0", "03ff", "04", "0400", "0fff", "1", "1000", "ffff", "8", "80000000",
		"000A" + bytesOf(10), "000Aabcdef", "00FFabc", "03EC" + bytesOf(1100), "A", "00A", "0X05a",
		"+005a", "-005a", "-000", "00+5a", "00-1", "+", "-", "-1", "0x5a", "0x05a", "0_05a", "00_5a", "0.05a", "05e0a",
		" 005a", "  05a", "   5a", "00 5a", "0005 a"[:3] + " a", " ", "   ", "\t005a", "\n0005a", "000\n", "5a", "5", "000g", "000/", "000:", "000@", "000`", "000G",
		"\x00\x00\x00\x05a", "\x00", "\xff\xff\xff\xff", "٠٠٠٥a", "zzzz", "000ﾠ",
	} {
		check(t, s, 0, "", 0, api.ErrForm)
	}
}

// lines is All's list told as one text.
func lines(l []string) string { return fmt.Sprintf("%d: %q", len(l), l) }

// checkAll holds what All tells of s against what it is to tell.
func checkAll(t *testing.T, s string, want []string, n int, e api.Errno) {
	t.Helper()
	got, gotN, gotE := line.All(s)
	if !slices.Equal(got, want) || gotN != n || gotE != e {
		t.Errorf("P5.1: All of %d bytes, %.30q: %.60s, %d, %d, not %.60s, %d, %d", len(s), s, lines(got), gotN, gotE, lines(want), n, e)
	}
	if e != api.OK && got != nil {
		t.Errorf("P5.1: All of %.30q: a list that isn't nil, beside an error", s)
	}
}

// joined are lines, a Delim where one is "", and no Flush.
func joined(t *testing.T, l []string) string {
	t.Helper()
	var b strings.Builder
	for _, s := range l {
		if s == "" {
			b.WriteString(line.Delim())
			continue
		}
		b.WriteString(put(t, s))
	}
	return b.String()
}

// lists are lines to be told.
func lists() [][]string {
	return [][]string{
		nil, {"a"}, {""}, {"a", "bc"}, {"bc", "a"}, {"a", "a", "a"}, {"", "", ""}, {"a", "", "b"}, {"", "a"}, {"a", ""}, {"", "a", "", "", "b", ""},
		{"0000", "0001", "0000"}, {"\x00", "\xff", "\n"}, {bytesOf(999), bytesOf(1000), "x"}, {bytesOf(1000), "", bytesOf(1)}, texts(),
	}
}

func TestAll(t *testing.T) {
	for _, l := range lists() {
		s := joined(t, l) + line.Flush()
		for _, behind := range append(behinds(), "0000", "0000"+s, s, "0001"+s, "0006bc0000") {
			checkAll(t, s+behind, l, len(s), api.OK)
		}
	}
}

func TestAllCutOff(t *testing.T) {
	for _, l := range lists() {
		s := joined(t, l) + line.Flush()
		step := 1 + len(s)/3000
		for n := 0; n < len(s); n += step {
			checkAll(t, s[:n], nil, 0, api.ErrMore)
		}
		for back := range min(20, len(s)) {
			checkAll(t, s[:len(s)-1-back], nil, 0, api.ErrMore)
		}
	}
}

// What is no line, in each place of several: the error is that of the first.
func TestAllOfNoLine(t *testing.T) {
	for _, l := range lists()[:15] {
		for place := range len(l) + 1 {
			before, after := joined(t, l[:place]), joined(t, l[place:])+line.Flush()
			for _, bad := range []string{"0002", "0003", "0004", "03ed", "ffff", "000A", "+005", " 005", "zzzz", "\x00\x00\x00\x05", "000g"} {
				checkAll(t, before+bad+after, nil, 0, api.ErrForm)
				checkAll(t, before+bad, nil, 0, api.ErrForm)
				checkAll(t, before+bad+"000", nil, 0, api.ErrForm)
			}
		}
	}
	checkAll(t, "0005a0002", nil, 0, api.ErrForm)
	checkAll(t, "0005a03", nil, 0, api.ErrMore)
	checkAll(t, "0005a04", nil, 0, api.ErrForm)
	checkAll(t, "0006a", nil, 0, api.ErrMore)
}

// A line's length counts, not what stands in it: a Flush within is none.
func TestAllOfFlushWithinALine(t *testing.T) {
	checkAll(t, "00080000", nil, 0, api.ErrMore)
	checkAll(t, "000800000000", []string{"0000"}, 12, api.OK)
	checkAll(t, "000700000000", []string{"000"}, 11, api.OK)
}

func TestAllOfMany(t *testing.T) {
	const many = 200000
	s := strings.Repeat("0005a0001", many) + "0000"
	l, n, e := line.All(s + s)
	if len(l) != 2*many || n != len(s) || e != api.OK {
		t.Errorf("P5.1: All of %d lines: %d, %d, %d", 2*many, len(l), n, e)
	}
	if l, n, e = line.All(strings.TrimSuffix(s, "0000")); l != nil || n != 0 || e != api.ErrMore {
		t.Errorf("P5.1: All of %d lines without a Flush: %d, %d, %d", 2*many, len(l), n, e)
	}
}

// Of many texts behind one another: each call tells its own, and looks at no
// more of what is behind than it must.
func TestAllOneBehindTheOther(t *testing.T) {
	const many = 20000
	s := strings.Repeat("0006ab0000", many)
	found := 0
	for rest := s; rest != ""; found++ {
		l, n, e := line.All(rest)
		if e != api.OK || n != 10 || !slices.Equal(l, []string{"ab"}) {
			t.Fatalf("P5.1: All of %d bytes: %s, %d, %d", len(rest), lines(l), n, e)
		}
		rest = rest[n:]
	}
	if found != many {
		t.Errorf("P5.1: %d lists, not %d", found, many)
	}
}

func TestAllKeepsApart(t *testing.T) {
	s := joined(t, []string{"a", "", "b"}) + line.Flush()
	first, _, _ := line.All(s)
	second, _, _ := line.All(s)
	first = first[:cap(first)]
	for i := range first {
		first[i] = "other"
	}
	third, _, _ := line.All(s)
	if want := []string{"a", "", "b"}; !slices.Equal(second, want) || !slices.Equal(third, want) {
		t.Errorf("P0.3, P0.5: All, behind writing into its answer: %q, %q", second, third)
	}
}

func ExamplePut() {
	s, ok := line.Put("hello")
	fmt.Println(s, ok)
	// Output: 0009hello true
}

func ExampleGet() {
	kind, text, n, e := line.Get("0009hello0000")
	fmt.Println(kind, text, n, e == api.OK)
	// Output: 1 hello 9 true
}

func ExampleAll() {
	l, n, e := line.All("0009hello0001000aworld\n0000more")
	fmt.Printf("%q %d %v\n", l, n, e == api.OK)
	// Output: ["hello" "" "world\n"] 27 true
}

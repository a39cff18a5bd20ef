package when_test

import (
	"fmt"
	"math"
	"regexp"
	"strconv"
	"strings"
	"testing"

	"colporteur/when"
)

const nanBits = 0x7FF8000000000001

var (
	low = math.Copysign(0, -1)
	inf = math.Inf(1)
)

// finite are floats that are finite, rising, the nought below 0 ahead of 0.
func finite() []float64 {
	up := []float64{
		math.SmallestNonzeroFloat64, 2 * math.SmallestNonzeroFloat64,
		math.Float64frombits(0x000fffffffffffff), // the greatest of those below the least normal one
		math.Float64frombits(0x0010000000000000),
		1e-300, 0.1, 0.5, math.Nextafter(1, 0), 1, math.Nextafter(1, 2), 1.5, 2, 1000, 1e6,
		1<<53 - 1, 1 << 53, 1<<53 + 2, 1e300, math.Nextafter(math.MaxFloat64, 0), math.MaxFloat64,
	}
	var all []float64
	for i := len(up) - 1; i >= 0; i-- {
		all = append(all, -up[i])
	}
	return append(append(all, low, 0), up...)
}

// nans are NaNs of several bits, of both signs, quiet and signalling.
func nans() []float64 {
	var all []float64
	for _, b := range []uint64{
		nanBits, 0x7ff8000000000000, 0x7ff8000000000002, 0x7ff8000000000123, 0x7ff0000000000001, 0x7ff4000000000000,
		0x7fffffffffffffff, 0xfff8000000000001, 0xfff8000000000000, 0xfff0000000000001, 0xffffffffffffffff,
	} {
		all = append(all, math.Float64frombits(b))
	}
	return all
}

// is tells whether a and b are the same float, to the bit.
func is(a, b float64) bool { return math.Float64bits(a) == math.Float64bits(b) }

// isNot0 tells whether f, that stands beside a false, is not just 0.
func isNot0(f float64) bool { return math.Float64bits(f) != 0 }

func TestMay(t *testing.T) {
	for _, f := range finite() {
		if got := when.May(f); got != !is(f, low) {
			t.Errorf("P3.1: May of %v (%x): %v", f, math.Float64bits(f), got)
		}
	}
	for _, f := range append(nans(), inf, -inf) {
		if when.May(f) {
			t.Errorf("P3.1: May of %v (%x)", f, math.Float64bits(f))
		}
	}
}

func TestNorm(t *testing.T) {
	for _, f := range finite() {
		want := f
		if f == 0 {
			want = 0
		}
		if got, ok := when.Norm(f); !ok || !is(got, want) {
			t.Errorf("P3.1: Norm of %v (%x): %v (%x), %v", f, math.Float64bits(f), got, math.Float64bits(got), ok)
		}
	}
	for _, f := range append(nans(), inf, -inf) {
		if got, ok := when.Norm(f); ok || isNot0(got) {
			t.Errorf("P3.1, P0.2: Norm of %v (%x): %v, %v", f, math.Float64bits(f), got, ok)
		}
	}
}

// What Norm answers May, and is its own Norm.
func TestNormMay(t *testing.T) {
	for _, f := range finite() {
		got, _ := when.Norm(f)
		again, ok := when.Norm(got)
		if !when.May(got) || !ok || !is(again, got) {
			t.Errorf("P3.1: Norm of Norm of %v: %v, %v", f, again, ok)
		}
	}
}

func TestLess(t *testing.T) {
	all := append([]float64{-inf}, finite()...)
	all = append(append(all, inf), nans()...)
	ordered := len(all) - len(nans())
	for i, a := range all {
		for k, b := range all {
			want := i < k && i < ordered
			if got := when.Less(a, b); got != want {
				t.Errorf("P3.1: Less of %v, %v (%x, %x): %v", a, b, math.Float64bits(a), math.Float64bits(b), got)
			}
		}
	}
}

func TestBits(t *testing.T) {
	for f, want := range map[float64]uint64{
		0: 0, 1: 0x3ff0000000000000, -2.5: 0xc004000000000000, 0.1: 0x3fb999999999999a,
		math.SmallestNonzeroFloat64: 1, math.MaxFloat64: 0x7fefffffffffffff, -math.MaxFloat64: 0xffefffffffffffff,
		inf: 0x7ff0000000000000, -inf: 0xfff0000000000000, math.Nextafter(1, 0): 0x3fefffffffffffff,
	} {
		if got := when.Bits(f); got != want {
			t.Errorf("P3.1: Bits of %v: %x, not %x", f, got, want)
		}
	}
	if got := when.Bits(low); got != 1<<63 {
		t.Errorf("P3.1: Bits of the nought below 0: %x", got)
	}
	for _, f := range nans() {
		if got := when.Bits(f); got != nanBits {
			t.Errorf("P3.1: Bits of a NaN (%x): %x", math.Float64bits(f), got)
		}
	}
}

func TestBitsAndOf(t *testing.T) {
	for _, f := range finite() {
		if is(f, low) {
			continue
		}
		b := when.Bits(f)
		got, ok := when.Of(b)
		if !ok || !is(got, f) || when.Bits(got) != b {
			t.Errorf("P3.1: Of the Bits of %v: %v, %v", f, got, ok)
		}
	}
	// One of each exponent and sign.
	for top := range uint64(1 << 12) {
		b := top<<52 | 0x123
		want := top&0x7ff != 0x7ff
		got, ok := when.Of(b)
		if ok != want || ok && when.Bits(got) != b || !ok && isNot0(got) {
			t.Errorf("P3.1: Of %x: %v, %v", b, got, ok)
		}
	}
}

func TestOfWhatMayNot(t *testing.T) {
	bad := []uint64{1 << 63, 0x7ff0000000000000, 0xfff0000000000000}
	for _, f := range nans() {
		bad = append(bad, math.Float64bits(f))
	}
	for _, b := range bad {
		if got, ok := when.Of(b); ok || isNot0(got) {
			t.Errorf("P3.1, P0.2: Of %x: %v, %v", b, got, ok)
		}
		if got, ok := when.Get(fmt.Sprintf("%016x", b)); ok || isNot0(got) {
			t.Errorf("P3.1, P0.2: Get of the digits of %x: %v, %v", b, got, ok)
		}
	}
}

func TestPutAndGet(t *testing.T) {
	for _, f := range finite() {
		if is(f, low) {
			continue
		}
		s := when.Put(f)
		if want := fmt.Sprintf("%016x", math.Float64bits(f)); s != want {
			t.Errorf("P3.1: Put of %v: %q, not %q", f, s, want)
		}
		if got, ok := when.Get(s); !ok || !is(got, f) {
			t.Errorf("P3.1: Get of Put of %v: %v, %v", f, got, ok)
		}
	}
	for s, want := range map[string]float64{
		"0000000000000000": 0, "3ff0000000000000": 1, "c004000000000000": -2.5, "0000000000000001": math.SmallestNonzeroFloat64,
		"7fefffffffffffff": math.MaxFloat64, "ffefffffffffffff": -math.MaxFloat64, "0123456789abcdef": math.Float64frombits(0x0123456789abcdef),
	} {
		if got, ok := when.Get(s); !ok || !is(got, want) || when.Put(got) != s {
			t.Errorf("P3.1: Get of %q: %v, %v, and Put again %q", s, got, ok, when.Put(got))
		}
	}
}

func TestPutOfWhatMayNot(t *testing.T) {
	for _, f := range append(nans(), low, inf, -inf) {
		if got := when.Put(f); got != "" {
			t.Errorf("P3.1: Put of %v (%x): %q", f, math.Float64bits(f), got)
		}
	}
}

func TestGetOfOtherLengths(t *testing.T) {
	for _, digit := range []string{"0", "3", "a", "\x00"} {
		for n := range 40 {
			got, ok := when.Get(strings.Repeat(digit, n))
			if ok != (n == 16 && digit != "\x00") || !ok && isNot0(got) {
				t.Errorf("P3.1, P0.2: Get of %d times %q: %v, %v", n, digit, got, ok)
			}
		}
	}
	for _, s := range []string{
		"3ff000000000000", "3ff00000000000000", "03ff0000000000000", " 3ff0000000000000", "3ff0000000000000 ",
		"3ff0000000000000\n", "0x3ff0000000000000", "3ff0000000000000\x00", strings.Repeat("0", 1<<20),
	} {
		if got, ok := when.Get(s); ok || isNot0(got) {
			t.Errorf("P3.1, P0.2: Get of %d bytes: %v, %v", len(s), got, ok)
		}
	}
}

// Every sign at every place of a text that is right but for it.
func TestGetOfOtherSigns(t *testing.T) {
	const right = "3ff0000000000000"
	for i := range right {
		for c := range 256 {
			s := right[:i] + string([]byte{byte(c)}) + right[i+1:]
			b, err := strconv.ParseUint(s, 16, 64)
			want := math.Float64frombits(b)
			isDigit := c >= '0' && c <= '9' || c >= 'a' && c <= 'f'
			lets := isDigit && err == nil && !math.IsNaN(want) && !math.IsInf(want, 0)
			got, ok := when.Get(s)
			if ok != lets || ok && !is(got, want) || !ok && isNot0(got) {
				t.Errorf("P3.1: Get of %q: %v, %v", s, got, ok)
			}
		}
	}
	for _, s := range []string{"3FF0000000000000", "+ff0000000000000", "-ff0000000000000", "0x00000000000001", "0_0_0_0_0_0_0_00", "3ff000000000000é"[:16], "éééééééé"} {
		if got, ok := when.Get(s); ok || isNot0(got) {
			t.Errorf("P3.1, P0.2: Get of %q: %v, %v", s, got, ok)
		}
	}
}

var sizeForm = regexp.MustCompile(`^((?:0|[1-9][0-9]{0,5})(?:\.[0-9]{1,3})?)([km]?)$`)

// sizeOf tells what Size must answer. Two whole numbers that floats hold are
// divided with one rounding, so that it is just what the decimal number is.
func sizeOf(s string) (float64, bool) {
	found := sizeForm.FindStringSubmatch(s)
	if found == nil {
		return 0, false
	}
	f, err := strconv.ParseFloat(found[1], 64)
	if err != nil {
		panic(err)
	}
	return f * map[string]float64{"": 1, "k": 1024, "m": 1048576}[found[2]], true
}

func checkSize(t *testing.T, s string) {
	t.Helper()
	want, lets := sizeOf(s)
	if got, ok := when.Size(s); ok != lets || !is(got, want) {
		t.Errorf("P3.1: Size of %q: %v, %v, not %v, %v", s, got, ok, want, lets)
	}
}

func TestSizeOfEachForm(t *testing.T) {
	for s, want := range map[string]float64{
		"0": 0, "1": 1, "9": 9, "10": 10, "100000": 100000, "999999": 999999,
		"0.0": 0, "0.5": 0.5, "0.25": 0.25, "0.125": 0.125, "0.001": 0.001, "0.000": 0, "1.0": 1, "10.250": 10.25,
		"999999.9": 999999.9, "999999.99": 999999.99, "999999.999": 999999.999,
		"0k": 0, "1k": 1024, "1.5k": 1536, "0.001k": 1.024, "999999k": 1023998976, "999999.999k": 999999.999 * 1024,
		"0m": 0, "1m": 1048576, "2m": 2097152, "0.5m": 524288, "0.125m": 131072, "999999m": 1048574951424,
		"999999.999m": 999999.999 * 1048576,
	} {
		if got, ok := when.Size(s); !ok || !is(got, want) {
			t.Errorf("P3.1: Size of %q: %v, %v, not %v", s, got, ok, want)
		}
	}
}

func TestSizeOfManyNumbers(t *testing.T) {
	wholes := []int{12345, 99999, 100000, 123456, 500000, 999998, 999999}
	for n := range 120 {
		wholes = append(wholes, n, n*8387)
	}
	for _, n := range wholes {
		for _, unit := range []string{"", "k", "m"} {
			whole := strconv.Itoa(n)
			checkSize(t, whole+unit)
			for part := range 1000 {
				checkSize(t, fmt.Sprintf("%s.%03d%s", whole, part, unit))
			}
			for part := range 100 {
				checkSize(t, fmt.Sprintf("%s.%02d%s", whole, part, unit))
			}
			for part := range 10 {
				checkSize(t, fmt.Sprintf("%s.%d%s", whole, part, unit))
			}
		}
	}
}

func TestSizeOfNone(t *testing.T) {
	for _, s := range []string{
		"", ".", "k", "m", ".k", "km", // no digits
		"00", "01", "007", "00.5", "01k", "000000", "012345", // a nought ahead
		".5", ".5k", ".125m", // none ahead of the point
		"1.", "0.", "1.k", "999999.m", // none behind it
		"1000000", "1234567", "1000000k", "0000001", "1000000.5", // a digit too many
		"1.0000", "0.1234", "1.0000m", "999999.9999k", "0.0000",
		"1kk", "1mm", "1km", "1mk", "1.5kk", "k1", "1k1", "1k.5", "1k5", // letters
		"1K", "1M", "1g", "1b", "1kb", "1kB", "1ki", "1е",
		"-1", "+1", "-0", "+0", "1-", "1.-1", "1.+1", "1.5-", "-1k", // signs
		" 1", "1 ", "1 k", "1k ", "1. 5", "1 .5", "\t1", "1\n", "1k\n", "1\x00", // spaces
		"1.2.3", "1..2", "1,5", "1_0", "1e3", "1e0", "0x1", "0x1p2", "inf", "nan", "NaN", "Inf", "١", "1.५",
		strings.Repeat("1", 1<<20), strings.Repeat("k", 1<<20), "1." + strings.Repeat("0", 1<<20), strings.Repeat(".", 1<<20),
	} {
		if got, ok := when.Size(s); ok || isNot0(got) {
			t.Errorf("P3.1, P0.2: Size of %q: %v, %v", s[:min(len(s), 30)], got, ok)
		}
	}
}

// All texts of up to four of the signs that a limit may hold, and of some others.
func TestSizeOfAllShortTexts(t *testing.T) {
	const signs = "0159.kmK+-e \xff"
	texts := []string{""}
	for range 4 {
		var longer []string
		for _, s := range texts {
			for i := range len(signs) {
				longer = append(longer, s+signs[i:i+1])
			}
		}
		for _, s := range longer {
			checkSize(t, s)
		}
		texts = longer
	}
}

// Every sign in place of each, and between each two, of texts that are right.
func TestSizeOfOtherSigns(t *testing.T) {
	for _, right := range []string{"0", "7", "10", "123456", "0.5", "12.34", "999999.999", "1k", "123456k", "9.5m", "999999.999m"} {
		checkSize(t, right)
		for i := range len(right) + 1 {
			for c := range 256 {
				sign := string([]byte{byte(c)})
				checkSize(t, right[:i]+sign+right[i:])
				if i < len(right) {
					checkSize(t, right[:i]+sign+right[i+1:])
				}
			}
			if i < len(right) {
				checkSize(t, right[:i]+right[i+1:])
			}
		}
	}
}

// What is asked again is answered the same, whatever was asked between.
func TestAnswersHangOnArgumentsAlone(t *testing.T) {
	for range 3 {
		when.Size("x")
		when.Get("x")
		when.Put(math.NaN())
		if f, ok := when.Size("1.5k"); !ok || f != 1536 {
			t.Errorf("P0.5: Size: %v, %v", f, ok)
		}
		if f, ok := when.Get(when.Put(-2.5)); !ok || f != -2.5 {
			t.Errorf("P0.5: Get of Put: %v, %v", f, ok)
		}
	}
}

func ExampleSize() {
	fmt.Println(when.Size("1.5k"))
	fmt.Println(when.Size("1.5 k"))
	// Output:
	// 1536 true
	// 0 false
}

func ExamplePut() {
	s := when.Put(-2.5)
	fmt.Println(s)
	fmt.Println(when.Get(s))
	// Output:
	// c004000000000000
	// -2.5 true
}

package filter_test

import (
	"fmt"
	"math"
	"regexp"
	"strconv"
	"strings"
	"testing"

	"colporteur/api"
	"colporteur/filter"
	"colporteur/when"
)

var lowNought = math.Copysign(0, -1)

const million = 1000000

// limits are such as may be a filter's.
func limits() []float64 {
	return []float64{0, math.SmallestNonzeroFloat64, math.Nextafter(math.SmallestNonzeroFloat64, 1), 1e-300, 0.001, 0.5, math.Nextafter(1, 0), 1, math.Nextafter(1, 2), 1.5, 9.999, 10, 999.5, 1000, 1001, 1024, 65536.25, 999999, 999999.999, math.Nextafter(million, 0), million}
}

// noLimits are such as may be none's, whatever its Kind.
func noLimits() []float64 {
	return []float64{
		lowNought, -math.SmallestNonzeroFloat64, -0.5, -1, -million, -math.MaxFloat64, math.Nextafter(million, 2*million), million + 1, 1048576, 1e7, 1e300, math.MaxFloat64,
		math.NaN(), -math.NaN(), math.Float64frombits(0xFFF8000000000001), math.Float64frombits(0x7FF0000000000001), math.Float64frombits(math.MaxUint64), math.Inf(1), math.Inf(-1),
	}
}

func depths() []int { return []int{0, 1, 2, 9, 10, 11, 99, 100, 500, 999, 1000} }

func noDepths() []int {
	return []int{-1, -2, -1000, -1001, math.MinInt, math.MinInt + 1, math.MinInt32, 1001, 1002, 10000, 1 << 32, 1<<32 + 1, 1<<32 + 1000, math.MaxInt - 1, math.MaxInt}
}

func noKinds() []int {
	return []int{-1, -2, -3, -4, 4, 5, 256, 257, 258, 259, 1 << 32, 1<<32 + 1, 1<<32 + 2, 1<<32 + 3, math.MinInt, math.MaxInt}
}

// right are filters that may be.
func right() []api.Filter {
	found := []api.Filter{{}, noBlobs()}
	for _, limit := range limits() {
		found = append(found, shorter(limit))
	}
	for _, depth := range depths() {
		found = append(found, within(depth))
	}
	return found
}

// wrong are filters that may not be.
func wrong() []api.Filter {
	var found []api.Filter
	for _, limit := range append(noLimits(), limits()[1:]...) {
		found = append(found, api.Filter{Limit: limit}, api.Filter{Kind: 1, Limit: limit}, api.Filter{Kind: 3, Limit: limit}, api.Filter{Kind: 3, Limit: limit, Depth: 1})
	}
	for _, depth := range append(noDepths(), depths()[1:]...) {
		found = append(found, api.Filter{Depth: depth}, api.Filter{Kind: 1, Depth: depth}, api.Filter{Kind: 2, Depth: depth}, api.Filter{Kind: 2, Limit: 5, Depth: depth})
	}
	for _, limit := range noLimits() {
		found = append(found, shorter(limit), api.Filter{Kind: 2, Limit: limit, Depth: 1})
	}
	for _, depth := range noDepths() {
		found = append(found, within(depth), api.Filter{Kind: 3, Limit: 1, Depth: depth})
	}
	for _, kind := range noKinds() {
		found = append(found, api.Filter{Kind: kind}, api.Filter{Kind: kind, Limit: 1}, api.Filter{Kind: kind, Limit: lowNought}, api.Filter{Kind: kind, Depth: 1}, api.Filter{Kind: kind, Limit: 1, Depth: 1})
	}
	return found
}

func TestMay(t *testing.T) {
	for _, f := range right() {
		if !filter.May(f) {
			t.Errorf("P17.1: May of %v: false", f)
		}
	}
	for _, f := range wrong() {
		if filter.May(f) {
			t.Errorf("P17.1: May of %v: true", f)
		}
	}
}

func TestMayOfAllDepths(t *testing.T) {
	for depth := -2000; depth <= 3000; depth++ {
		want := depth >= 0 && depth <= 1000
		if got := filter.May(within(depth)); got != want {
			t.Errorf("P17.1: May of Depth %d: %v", depth, got)
		}
	}
}

func TestPut(t *testing.T) {
	for _, x := range []struct {
		f    api.Filter
		want string
	}{
		{api.Filter{}, "none"}, {noBlobs(), "blob:none"},
		{shorter(0), "blob:limit=0000000000000000"}, {shorter(math.SmallestNonzeroFloat64), "blob:limit=0000000000000001"}, {shorter(0.5), "blob:limit=3fe0000000000000"}, {shorter(1), "blob:limit=3ff0000000000000"},
		{shorter(1.5), "blob:limit=3ff8000000000000"}, {shorter(1000), "blob:limit=408f400000000000"}, {shorter(math.Nextafter(million, 0)), "blob:limit=412e847fffffffff"}, {shorter(million), "blob:limit=412e848000000000"},
		{within(0), "tree:0"}, {within(1), "tree:1"}, {within(9), "tree:9"}, {within(10), "tree:10"}, {within(100), "tree:100"}, {within(987), "tree:987"}, {within(1000), "tree:1000"},
	} {
		if got := filter.Put(x.f); got != x.want {
			t.Errorf("P17.1: Put of %v: %q, not %q", x.f, got, x.want)
		}
	}
	seen := map[string]api.Filter{}
	for _, f := range right() {
		got := filter.Put(f)
		if other, ok := seen[got]; ok || got == "" {
			t.Errorf("P17.1: Put of %v and of %v: %q", f, other, got)
		}
		seen[got] = f
	}
	for _, f := range wrong() {
		if got := filter.Put(f); got != "" {
			t.Errorf("P0.2, P17.1: Put of %v: %q", f, got)
		}
	}
}

// gets asks that Get of s is f; none: nil.
func gets(t *testing.T, s string, f *api.Filter) {
	t.Helper()
	got, ok := filter.Get(s)
	switch {
	case f == nil && (ok || got != (api.Filter{}) || math.Signbit(got.Limit)):
		t.Errorf("P0.2, P17.1: Get of %.90q: %v, %v", s, got, ok)
	case f != nil && (!ok || got != *f || math.Float64bits(got.Limit) != math.Float64bits(f.Limit)):
		t.Errorf("P17.1: Get of %.90q: %v, %v, not %v", s, got, ok, *f)
	}
}

func TestGetOfPut(t *testing.T) {
	for _, f := range right() {
		gets(t, filter.Put(f), &f)
	}
	for depth := range 1001 {
		f := within(depth)
		gets(t, fmt.Sprint("tree:", depth), &f)
	}
}

var (
	bitsForm  = regexp.MustCompile(`\Ablob:limit=([0-9a-f]{16})\z`)
	sizeForm  = regexp.MustCompile(`\Ablob:limit=((?:0|[1-9][0-9]{0,5})(?:\.[0-9]{1,3})?)([km]?)\z`)
	depthForm = regexp.MustCompile(`\Atree:(0|[1-9][0-9]{0,2}|1000)\z`)
)

// meant is the filter that s tells by the chapter, read in another way; nil:
// none.
func meant(s string) *api.Filter {
	if s == "none" {
		return &api.Filter{}
	}
	if s == "blob:none" {
		return &api.Filter{Kind: 1}
	}
	if found := depthForm.FindStringSubmatch(s); found != nil {
		depth, _ := strconv.ParseInt(found[1], 10, 64)
		return &api.Filter{Kind: 3, Depth: int(depth)}
	}
	if found := bitsForm.FindStringSubmatch(s); found != nil {
		// Floats of 0 and above rise as their bits do; all others are above them.
		bits, _ := strconv.ParseUint(found[1], 16, 64)
		if bits <= math.Float64bits(million) {
			return &api.Filter{Kind: 2, Limit: math.Float64frombits(bits)}
		}
	}
	if found := sizeForm.FindStringSubmatch(s); found != nil {
		limit, _ := strconv.ParseFloat(found[1], 64)
		limit *= map[string]float64{"": 1, "k": 1 << 10, "m": 1 << 20}[found[2]]
		if limit <= million {
			return &api.Filter{Kind: 2, Limit: limit}
		}
	}
	return nil
}

// A sign taken out, put in, turned at every place.
func TestGetOfTurnedTexts(t *testing.T) {
	texts := []string{"blob:limit=0", "blob:limit=12", "blob:limit=0.5", "blob:limit=1k", "blob:limit=976.562k", "blob:limit=0.953m", "blob:limit=999999.999", "blob:limit=1.000", "blob:limit=", "tree:", ""}
	for _, f := range right() {
		texts = append(texts, filter.Put(f))
	}
	taken, refused := 0, 0
	try := func(s string) {
		f := meant(s)
		if f == nil {
			refused++
		} else {
			taken++
		}
		gets(t, s, f)
	}
	for _, text := range texts {
		try(text)
		for at := range len(text) + 1 {
			try(text[:at])
			try(text[at:])
			try(text[:at] + text + text[at:])
			for b := range 256 {
				sign := string([]byte{byte(b)})
				try(text[:at] + sign + text[at:])
				if at < len(text) {
					try(text[:at] + sign + text[at+1:])
				}
			}
			if at < len(text) {
				try(text[:at] + text[at+1:])
			}
		}
	}
	if taken < 1000 || refused < 100000 {
		t.Errorf("turned texts: %d that are right, %d that are not", taken, refused)
	}
}

func TestGetOfNoFilter(t *testing.T) {
	for _, s := range []string{
		"", " ", "\x00", "\n", "0", "1", "None", "NONE", "non", "nonee", "none ", " none", "none\n", "\nnone", "none\x00", "none:", "none=", "nonenone", "none none",
		"blob", "blob:", "blob:non", "blob:nonee", "blob:none ", " blob:none", "blob:none\n", "blob:none\x00", "Blob:none", "blob:None", "blob: none", "blob :none", "blob=none", "blobnone", "blob::none", "blob:none:", "blob:none=0", "blob:none=", "blob:none:0", "tree:none", "blob:noneblob:none",
		"blob:limit", "blob:limit:", "blob:limit=", "blob:limit= ", "blob:limit=none", "blob:limit==1", "blob:limit:1", "blob:limit1", "blob:Limit=1", "blob:limit =1", "blob:limit= 1", "blob:limit=1 ", "blob:limit=1\n", " blob:limit=1", "limit=1", "blob:blob:limit=1", "blob:limit=blob:limit=1", "tree:limit=1",
		"tree", "tree:", "tree: ", "tree:=", "tree=1", "tree::1", "tree 1", "tree: 1", "tree:1 ", "tree:1\n", "tree:1\x00", " tree:1", "Tree:1", "tree1", "blob:1", "blob:tree:1", "tree:tree:1", "tree:depth=1",
		"sparse", "sparse:oid=1", "combine:none", "object:type=blob", "blob:limit=1+tree:1", "none+none", "blob:none,tree:1",
		strings.Repeat("none", 1<<16), "blob:limit=" + strings.Repeat("0", 1<<16), "tree:" + strings.Repeat("1", 1<<16), strings.Repeat("tree:", 1<<16), strings.Repeat("\xff", 1<<16),
	} {
		gets(t, s, nil)
		if meant(s) != nil {
			t.Errorf("meant is wrong of %.90q", s)
		}
	}
}

// What when.Put writes of floats that may be no limit, and its hexadecimal digits
// otherwise than it writes them.
func TestGetOfBits(t *testing.T) {
	for _, limit := range noLimits() {
		gets(t, "blob:limit="+when.Put(limit), nil)
		gets(t, fmt.Sprintf("blob:limit=%016x", math.Float64bits(limit)), nil)
	}
	for _, limit := range limits() {
		f := shorter(limit)
		bits := fmt.Sprintf("%016x", math.Float64bits(limit))
		gets(t, "blob:limit="+bits, &f)
		for _, s := range []string{bits + "k", bits + "m", bits + ".0", bits + "0", "0" + bits, "0x" + bits, bits[1:], bits[:15], "+" + bits, "-" + bits, bits + bits} {
			gets(t, "blob:limit="+s, nil)
		}
		if upper := strings.ToUpper(bits); upper != bits {
			gets(t, "blob:limit="+upper, nil)
		}
	}
}

// Each form of a limit as one writes it.
func TestGetOfSizes(t *testing.T) {
	for s, limit := range map[string]float64{
		"0": 0, "1": 1, "9": 9, "10": 10, "12": 12, "999": 999, "1024": 1024, "65536": 65536, "100000": 100000, "999999": 999999,
		"0.0": 0, "0.00": 0, "0.000": 0, "0.5": 0.5, "0.50": 0.5, "0.500": 0.5, "0.001": 0.001, "0.01": 0.01, "1.5": 1.5, "12.25": 12.25, "12.345": 12.345, "999999.9": 999999.9, "999999.999": 999999.999, "0.1": 0.1, "0.3": 0.3,
		"0k": 0, "1k": 1024, "2k": 2048, "10k": 10240, "976k": 999424, "976.5k": 999936, "976.56k": 999997.44, "976.562k": 999999.488, "0.5k": 512, "0.001k": 1.024, "1.000k": 1024, "0.000k": 0,
		"0m": 0, "0.0m": 0, "0.5m": 524288, "0.9m": 943718.4, "0.25m": 262144, "0.001m": 1048.576, "0.95m": 996147.2, "0.953m": 999292.928,
	} {
		f := shorter(limit)
		gets(t, "blob:limit="+s, &f)
		if m := meant("blob:limit=" + s); m == nil || *m != f {
			t.Errorf("meant is wrong of %s: %v", s, m)
		}
	}
	for _, s := range []string{
		// Above 1,000,000.
		"976.563k", "976.57k", "976.6k", "977k", "1000k", "999999k", "999999.999k", "0.954m", "0.96m", "1m", "1.0m", "1.000m", "2m", "999999m", "999999.999m",
		// Of no form.
		"1000000", "1000000.0", "0999999", "00", "01", "00.5", "007", "0.", ".5", ".", "1.", "1.k", ".k", "k", "m", "km", "1kk", "1km", "1mk", "1K", "1M", "1g", "1b", "1kb", "0.0000", "1.2345", "1.2.3", "1..2", "1,5", "1 k", "1k ", " 1k", "-0", "-1", "+1", "-0.5", "-1k", "1-", "1e3", "0x10", "1_000", "1,000", "inf", "Inf", "nan", "NaN", "1234567", "12345678.5", "١",
	} {
		gets(t, "blob:limit="+s, nil)
		if m := meant("blob:limit=" + s); m != nil {
			t.Errorf("meant is wrong of %s: %v", s, m)
		}
		gets(t, s, nil)
		gets(t, "tree:"+s, nil)
	}
}

func TestGetOfAllSizes(t *testing.T) {
	for _, unit := range []string{"", "k", "m"} {
		for whole := 0; whole < 1100; whole += 1 + whole/50 {
			for part := range 1000 {
				for _, s := range []string{fmt.Sprintf("%d.%03d", whole, part), fmt.Sprint(whole, ".", part), fmt.Sprint(whole*1000 + part)} {
					s = "blob:limit=" + s + unit
					gets(t, s, meant(s))
				}
			}
		}
	}
}

func TestGetOfDepths(t *testing.T) {
	for _, s := range []string{
		"", "1001", "1002", "1010", "1100", "2000", "9999", "10000", "01000", "00", "01", "001", "007", "0999", "000", "-0", "+0", "-1", "+1", "-1000", "+1000", "--1", "1-", "1+", "0x1", "0b1", "0o7", "1_0", "1_000", "1,000", "1.0", "1.", ".1", "1e1", "1e3", " 1", "1 ", "1k", "1\n", "\x001",
		"4294967296", "4294967297", "9223372036854775807", "9223372036854775808", "18446744073709551615", "18446744073709551616", "18446744073709551617", "18446744073709552616", "-9223372036854775808", "-9223372036854775809", "99999999999999999999999999999999", "340282366920938463463374607431768211457",
		strings.Repeat("9", 1000), strings.Repeat("0", 1000), strings.Repeat("0", 1000) + "1", "1" + strings.Repeat("0", 1000), "a", "f", "A", "ten", "all", "none", "٣", "１",
	} {
		gets(t, "tree:"+s, nil)
	}
	for _, depth := range noDepths() {
		gets(t, fmt.Sprint("tree:", depth), nil)
	}
}

func FuzzGet(f *testing.F) {
	for _, x := range right() {
		f.Add(filter.Put(x))
	}
	f.Add("blob:limit=976.562k")
	f.Fuzz(func(t *testing.T, s string) { gets(t, s, meant(s)) })
}

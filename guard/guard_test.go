package guard_test

import (
	"bytes"
	"errors"
	"fmt"
	"math"
	"runtime"
	"slices"
	"testing"

	"colporteur/api"
	"colporteur/guard"
)

// codes are all errors, OK too, and numbers that are none.
func codes() []api.Errno {
	es := []api.Errno{-1, api.ErrRange + 1, math.MinInt, math.MaxInt}
	for e := api.OK; e <= api.ErrRange; e++ {
		es = append(es, e)
	}
	return es
}

// fall tells whether f panics, and what with.
func fall(f func()) (x any, fell bool) {
	fell = true
	defer func() { x = recover() }()
	f()
	return nil, false
}

// text is n bytes, no two beside one another alike.
func text(n int) []byte {
	b := make([]byte, n)
	for i := range b {
		b[i] = byte(i*7 + 1)
	}
	return b
}

func TestFailPanicsWithTheFault(t *testing.T) {
	for _, e := range codes() {
		x, fell := fall(func() { guard.Fail(e) })
		if !fell || x != any(api.Fault{Code: e}) {
			t.Errorf("P2.1: Fail of %d panics: %v, with %#v", e, fell, x)
		}
	}
}

func TestMust(t *testing.T) {
	for _, e := range codes() {
		if x, fell := fall(func() { guard.Must(true, e) }); fell {
			t.Errorf("P2.1: Must of true and %d panics with %#v", e, x)
		}
		x, fell := fall(func() { guard.Must(false, e) })
		if !fell || x != any(api.Fault{Code: e}) {
			t.Errorf("P2.1: Must of false and %d panics: %v, with %#v", e, fell, x)
		}
	}
}

func TestDoOfWhatComesBack(t *testing.T) {
	calls := 0
	if got := guard.Do(func() { calls++ }); got != api.OK || calls != 1 {
		t.Errorf("P2.1: Do: %d, calls: %d", got, calls)
	}
	if got := guard.Do(func() {
		defer func() { recover() }()
		guard.Fail(api.ErrSum)
	}); got != api.OK {
		t.Errorf("P2.1: Do of what catches its own fault: %d", got)
	}
}

func TestDoOfAFault(t *testing.T) {
	for _, e := range codes() {
		for name, fail := range map[string]func(){
			"Fail":  func() { guard.Fail(e) },
			"Must":  func() { guard.Must(false, e) },
			"panic": func() { panic(api.Fault{Code: e}) },
		} {
			calls, after, left := 0, false, false
			got := guard.Do(func() {
				defer func() { left = true }()
				calls++
				fail()
				after = true
			})
			if got != e || calls != 1 || after || !left {
				t.Errorf("P2.1: Do of %s %d: %d, calls: %d, went on: %v, left: %v", name, e, got, calls, after, left)
			}
		}
	}
}

// A Do keeps nothing of an earlier one.
func TestDoBehindDo(t *testing.T) {
	for _, e := range codes() {
		guard.Do(func() { guard.Fail(e) })
		if got := guard.Do(func() {}); got != api.OK {
			t.Errorf("P2.1, P0.5: Do behind a fault %d: %d", e, got)
		}
	}
}

func TestDoOfADeepFault(t *testing.T) {
	var down func(n int)
	down = func(n int) {
		guard.Must(n > 0, api.ErrDepth)
		down(n - 1)
	}
	if got := guard.Do(func() { down(1000) }); got != api.ErrDepth {
		t.Errorf("P2.1: Do of a fault far down: %d", got)
	}
}

func TestDoOfNil(t *testing.T) {
	got := api.ErrForm
	x, fell := fall(func() { got = guard.Do(nil) })
	if fell || got != api.OK {
		t.Errorf("P0.1, P2.1: Do of nil: %d, panics: %v, with %v", got, fell, x)
	}
}

// like is held by its embedded Fault to be one, and is none.
type like struct{ api.Fault }

// wraps is an error with a Fault inside.
type wraps struct{ inner api.Fault }

func (wraps) Error() string { return "wraps" }

func TestDoOfAnotherPanic(t *testing.T) {
	for k, x := range []any{
		"", "text", 0, 5, false, 1.5, [2]int{1, 2}, struct{}{}, struct{ Code api.Errno }{api.ErrSum},
		api.OK, api.ErrSum, &api.Fault{Code: api.ErrSum}, (*api.Fault)(nil), like{api.Fault{Code: api.ErrSum}},
		wraps{api.Fault{Code: api.ErrSum}}, errors.New("an error"), make(chan int),
	} {
		after := false
		got, fell := fall(func() {
			guard.Do(func() { panic(x) })
			after = true
		})
		if !fell || got != x || after {
			t.Errorf("P2.1, %d: Do of panic(%#v) panics: %v, with %#v", k, x, fell, got)
		}
	}
}

// A value that can't be held against itself goes on, too.
func TestDoOfAListPanic(t *testing.T) {
	list := []int{1, 2, 3}
	x, fell := fall(func() { guard.Do(func() { panic(list) }) })
	got, ok := x.([]int)
	if !fell || !ok || len(got) != 3 || &got[0] != &list[0] {
		t.Errorf("P2.1: Do of a list's panic: %v, with %#v", fell, x)
	}
}

func TestDoOfTheLanguagesPanics(t *testing.T) {
	var list []int
	var numbers map[int]int
	var fault *api.Fault
	zero := len(list)
	for name, f := range map[string]func(){
		"an index":    func() { list[zero]++ },
		"a nil map":   func() { numbers[1] = 2 },
		"a nil":       func() { fault.Code = api.ErrSum },
		"a division":  func() { zero = 1 / zero },
		"a wrong int": func() { zero = any("text").(int) },
	} {
		x, fell := fall(func() { guard.Do(f) })
		if _, ok := x.(runtime.Error); !fell || !ok {
			t.Errorf("P2.1: Do of %s: panics: %v, with %#v", name, fell, x)
		}
	}
	x, fell := fall(func() { guard.Do(func() { panic(nil) }) })
	if _, ok := x.(*runtime.PanicNilError); !fell || !ok {
		t.Errorf("P2.1: Do of panic(nil): panics: %v, with %#v", fell, x)
	}
}

// Of two panics the later one holds.
func TestDoOfAPanicOnAPanic(t *testing.T) {
	if got := guard.Do(func() {
		defer guard.Fail(api.ErrSum)
		panic("text")
	}); got != api.ErrSum {
		t.Errorf("P2.1: Do of a fault behind a text: %d", got)
	}
	if got := guard.Do(func() {
		defer guard.Fail(api.ErrSum)
		guard.Fail(api.ErrMore)
	}); got != api.ErrSum {
		t.Errorf("P2.1: Do of a fault behind a fault: %d", got)
	}
	if x, _ := fall(func() {
		guard.Do(func() {
			defer func() { panic("text") }()
			guard.Fail(api.ErrMore)
		})
	}); x != "text" {
		t.Errorf("P2.1: Do of a text behind a fault panics with %#v", x)
	}
}

func TestDoWithinDo(t *testing.T) {
	for _, inner := range codes() {
		for _, outer := range codes() {
			var caught api.Errno
			got := guard.Do(func() {
				caught = guard.Do(func() { guard.Fail(inner) })
				guard.Fail(outer)
			})
			if caught != inner || got != outer {
				t.Errorf("P2.1: %d within %d: %d, %d", inner, outer, caught, got)
			}
		}
		went := false
		if got := guard.Do(func() {
			guard.Do(func() { guard.Fail(inner) })
			went = true
		}); got != api.OK || !went {
			t.Errorf("P2.1: a Do around a caught %d: %d, went on: %v", inner, got, went)
		}
	}
}

func TestDoWithinDoOfAnotherPanic(t *testing.T) {
	x, _ := fall(func() {
		guard.Do(func() {
			guard.Do(func() { panic("text") })
			t.Error("P2.1: the outer Do goes on behind another panic")
		})
	})
	if x != "text" {
		t.Errorf("P2.1: another panic through two Dos: %#v", x)
	}
}

// A Do that is called while a panic is on its way catches its own alone.
func TestDoOnTheWayOfAPanic(t *testing.T) {
	var inner api.Errno
	got := guard.Do(func() {
		defer func() { inner = guard.Do(func() { guard.Fail(api.ErrMore) }) }()
		guard.Fail(api.ErrSum)
	})
	if inner != api.ErrMore || got != api.ErrSum {
		t.Errorf("P2.1: a Do in a deferred call: %d, around it: %d", inner, got)
	}
	got = guard.Do(func() {
		defer func() { inner = guard.Do(func() {}) }()
		guard.Fail(api.ErrSum)
	})
	if inner != api.OK || got != api.ErrSum {
		t.Errorf("P2.1: a Do of nothing in a deferred call: %d, around it: %d", inner, got)
	}
}

func TestByteAtEveryPlace(t *testing.T) {
	all := make([]byte, 256)
	for v := range all {
		all[v] = byte(v)
	}
	for _, b := range [][]byte{nil, {}, all, text(1), text(2), text(1000)} {
		r := guard.New(b)
		for i, want := range b {
			if left := r.Left(); left != len(b)-i {
				t.Fatalf("P2.1: Left of %d bytes at %d: %d", len(b), i, left)
			}
			if got := r.Byte(); got != want {
				t.Fatalf("P2.1: Byte of %d bytes at %d: %d, not %d", len(b), i, got, want)
			}
		}
		for range 3 {
			if got := guard.Do(func() { r.Byte() }); got != api.ErrMore || r.Left() != 0 {
				t.Errorf("P2.1: Byte behind %d bytes: %d, left: %d", len(b), got, r.Left())
			}
		}
	}
}

// at is a Reader of b that stands at i.
func at(b []byte, i int) *guard.Reader {
	r := guard.New(b)
	for range i {
		r.Byte()
	}
	return r
}

func TestBytesAtEveryPlace(t *testing.T) {
	for size := range 30 {
		b := text(size)
		for i := range size + 1 {
			for n := range size - i + 1 {
				r := at(b, i)
				got := r.Bytes(n)
				if !bytes.Equal(got, b[i:i+n]) || r.Left() != size-i-n {
					t.Fatalf("P2.1: Bytes of %d bytes at %d, %d of them: %v, left: %d", size, i, n, got, r.Left())
				}
				if rest := r.Bytes(r.Left()); !bytes.Equal(rest, b[i+n:]) {
					t.Fatalf("P2.1: what stands behind Bytes of %d bytes at %d, %d of them: %v", size, i, n, rest)
				}
			}
		}
	}
}

func TestBytesThatThereAreNot(t *testing.T) {
	for size := range 20 {
		b := text(size)
		for i := range size + 1 {
			r := at(b, i)
			for n, want := range map[int]api.Errno{
				size - i + 1: api.ErrMore, size - i + 2: api.ErrMore, size + 50: api.ErrMore,
				1 << 31: api.ErrMore, 1 << 40: api.ErrMore, math.MaxInt: api.ErrMore, math.MaxInt - i: api.ErrMore,
				-1: api.ErrForm, -2: api.ErrForm, -size - 9: api.ErrForm, math.MinInt: api.ErrForm,
			} {
				got := guard.Do(func() { r.Bytes(n) })
				if got != want || r.Left() != size-i {
					t.Errorf("P2.1: Bytes of %d bytes at %d, %d of them: %d, left: %d", size, i, n, got, r.Left())
				}
			}
			if rest := r.Bytes(size - i); !bytes.Equal(rest, b[i:]) {
				t.Errorf("P2.1: what is read behind faults, of %d bytes at %d: %v", size, i, rest)
			}
		}
	}
}

func TestBytesAndByteInTurn(t *testing.T) {
	b := text(500)
	r := guard.New(b)
	var got []byte
	for n := 0; r.Left() > 0; n++ {
		got = append(got, r.Byte())
		got = append(got, r.Bytes(min(n, r.Left()))...)
	}
	if !bytes.Equal(got, b) {
		t.Errorf("P2.1: Byte and Bytes in turn: %v", got)
	}
}

func TestReaderOfNoBytes(t *testing.T) {
	var none *guard.Reader
	for name, r := range map[string]*guard.Reader{
		"a nil Reader": none, "New(nil)": guard.New(nil), "New of an empty list": guard.New([]byte{}),
		"a zero Reader": {},
	} {
		for range 2 {
			if r.Left() != 0 || len(r.Bytes(0)) != 0 {
				t.Errorf("P2.1, P0.4: %s: left: %d, Bytes of none: %v", name, r.Left(), r.Bytes(0))
			}
			if got := guard.Do(func() { r.Byte() }); got != api.ErrMore {
				t.Errorf("P2.1, P0.4: %s: Byte: %d", name, got)
			}
			for n, want := range map[int]api.Errno{
				1: api.ErrMore, 2: api.ErrMore, math.MaxInt: api.ErrMore, -1: api.ErrForm, math.MinInt: api.ErrForm,
			} {
				if got := guard.Do(func() { r.Bytes(n) }); got != want {
					t.Errorf("P2.1, P0.4: %s: Bytes of %d: %d", name, n, got)
				}
			}
		}
	}
}

// What a Reader Fails with panics as a fault, where no Do stands around it.
func TestReaderPanics(t *testing.T) {
	r := guard.New(text(3))
	for n, want := range map[int]api.Errno{-1: api.ErrForm, 4: api.ErrMore} {
		if x, _ := fall(func() { r.Bytes(n) }); x != any(api.Fault{Code: want}) {
			t.Errorf("P2.1: Bytes of %d panics with %#v", n, x)
		}
	}
	if x, _ := fall(func() { guard.New(nil).Byte() }); x != any(api.Fault{Code: api.ErrMore}) {
		t.Errorf("P2.1: Byte of none panics with %#v", x)
	}
}

func TestWhatIsHandedInIsNotKept(t *testing.T) {
	want := text(40)
	b := text(40)
	r := guard.New(b)
	clear(b)
	if got := r.Bytes(10); !bytes.Equal(got, want[:10]) {
		t.Errorf("P2.1, P0.3: written over ahead of the first Bytes: %v", got)
	}
	for i := range b {
		b[i] = 0xee
	}
	if got := r.Byte(); got != want[10] {
		t.Errorf("P2.1, P0.3: written over between: %d", got)
	}
	if got := r.Bytes(29); !bytes.Equal(got, want[11:]) {
		t.Errorf("P2.1, P0.3: written over between: %v", got)
	}
}

func TestWhatIsHandedInIsNotChanged(t *testing.T) {
	all := text(60)
	r := guard.New(all[:40])
	r.Byte()
	spoil(r.Bytes(20))
	spoil(r.Bytes(19))
	guard.Do(func() { r.Bytes(1) })
	if !bytes.Equal(all, text(60)) {
		t.Error("P0.3: a list that was handed in, or its spare room, was changed")
	}
}

// spoil writes over a list and its spare room.
func spoil(b []byte) {
	b = b[:cap(b)]
	for i := range b {
		b[i] = 0xee
	}
}

func TestWhatIsHandedOutIsNew(t *testing.T) {
	for _, n := range []int{0, 1, 2, 7, 8, 31, 32, 33, 50} {
		b := text(200)
		r := guard.New(b)
		first := r.Bytes(n)
		second := r.Bytes(n)
		held := slices.Clone(second)
		spoil(first)
		if !bytes.Equal(second, held) {
			t.Errorf("P0.3: writing into an answer of %d bytes changed another one", n)
		}
		spoil(second)
		if got := r.Bytes(r.Left()); !bytes.Equal(got, b[2*n:]) {
			t.Errorf("P0.3: writing into answers of %d bytes changed what is read behind them", n)
		}
	}
}

func TestReadersStandAlone(t *testing.T) {
	b := text(64)
	one, other := guard.New(b), guard.New(b)
	spoil(one.Bytes(40))
	guard.Do(func() { one.Bytes(100) })
	if other.Left() != 64 {
		t.Errorf("P0.5: another Reader of the same bytes was read: left: %d", other.Left())
	}
	if got := other.Bytes(64); !bytes.Equal(got, b) || one.Left() != 24 {
		t.Errorf("P0.5: another Reader of the same bytes: %v, left of the first: %d", got, one.Left())
	}
}

func ExampleDo() {
	r := guard.New([]byte("abc"))
	e := guard.Do(func() {
		fmt.Println(string(r.Bytes(2)))
		fmt.Println(string(r.Bytes(2)))
	})
	fmt.Println(e == api.ErrMore, r.Left())
	// Output:
	// ab
	// true 1
}

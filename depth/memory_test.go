package depth_test

import (
	"fmt"
	"slices"
	"strings"
	"testing"

	"colporteur/api"
	"colporteur/depth"
	"colporteur/walk"
)

// lists are what a call answers.
type lists [][]api.Id

// calls are all that package depth has, of two or three lists of names.
func calls(g *walk.Graph) map[string]func(a, b, c []api.Id) lists {
	found := map[string]func(a, b, c []api.Id) lists{
		"Stop": func(a, b, _ []api.Id) lists { return lists{depth.Stop(g, a, b)} },
		"Merge": func(a, b, c []api.Id) lists {
			shallow, gone := depth.Merge(a, b, c)
			return lists{shallow, gone}
		},
	}
	for _, d := range []int{-1, 0, 1, 2, 3, 1000} {
		found[fmt.Sprint("By ", d)] = func(a, _, _ []api.Id) lists {
			in, cut, _ := depth.By(g, a, d)
			return lists{in, cut}
		}
		found[fmt.Sprint("Since ", d)] = func(a, _, _ []api.Id) lists {
			in, cut, _ := depth.Since(g, a, float64(d))
			return lists{in, cut}
		}
	}
	return found
}

// copied is what stands in ls, and no list of them.
func copied(ls lists) lists {
	var found lists
	for _, list := range ls {
		found = append(found, slices.Clone(list))
	}
	return found
}

func equal(a, b lists) bool {
	return slices.EqualFunc(a, b, func(x, y []api.Id) bool { return slices.Equal(x, y) })
}

// full are lists with their spare room.
func full(ls lists) string {
	var text strings.Builder
	for _, list := range ls {
		fmt.Fprintf(&text, "%d %x\n", len(list), list[:cap(list)])
	}
	return text.String()
}

// No argument is changed or kept; what is told is the caller's own, and no list
// of it shares memory with another one.
func TestMemory(t *testing.T) {
	s := shelfOf(holes)
	g := s.graph()
	rest := s.ids("n ofBlob r gone m half")
	labels := []string{"", "n", "n n m", "r half ofBlob", "half r gone blob", "m ofZero n r half lost1", "ofBlob ofTree"}
	for what, call := range calls(g) {
		for at, a := range labels {
			for turn := range labels {
				handed := lists{roomy(s.ids(a), rest...), roomy(s.ids(labels[turn]), rest...), roomy(s.ids(labels[(at+turn)%len(labels)]), rest...)}
				was, kept := full(handed), copied(handed)
				told := call(handed[0], handed[1], handed[2])
				if full(handed) != was {
					t.Fatalf("P0.3: %s changes what it is handed: %q", what, a)
				}
				want := copied(told)
				for _, list := range handed {
					write(list, api.Id{66})
				}
				if !equal(told, want) {
					t.Fatalf("P0.3: %s answers with what it is handed: %q", what, a)
				}
				for k := range told {
					write(told[k], api.Id{byte(100 + k)})
					if !equal(told[k+1:], want[k+1:]) {
						t.Fatalf("P0.3: lists of one answer of %s share memory: %q", what, a)
					}
				}
				if !equal(call(kept[0], kept[1], kept[2]), want) {
					t.Fatalf("P0.3, P0.5: %s tells otherwise the second time: %q", what, a)
				}
			}
		}
	}
}

// One list may be handed in as all of them.
func TestOneListAsAll(t *testing.T) {
	s := shelfOf(holes)
	for what, call := range calls(s.graph()) {
		for _, labels := range []string{"", "n", "n m n half r", "gone r blob m"} {
			one := roomy(s.ids(labels), s.ids("n ofBlob r")...)
			was := full(lists{one})
			if got, want := call(one, one, one), call(s.ids(labels), s.ids(labels), s.ids(labels)); !equal(got, want) || full(lists{one}) != was {
				t.Errorf("P0.3: %s of one list: %q", what, labels)
			}
		}
	}
}

// What is asked changes no graph, and what is told hangs on what the graph has.
func TestGraphsAreNotChanged(t *testing.T) {
	s := shelfOf(holes)
	g := s.graph()
	var was []string
	for _, id := range g.Ids() {
		o, _ := g.Get(id)
		was = append(was, fmt.Sprint(o))
	}
	for _, call := range calls(g) {
		for _, list := range call(s.ids("n m r"), s.ids("half"), s.ids("r")) {
			write(list, api.Id{66})
		}
	}
	for at, id := range s.graph().Ids() {
		if o, ok := g.Get(id); !ok || fmt.Sprint(o) != was[at] {
			t.Errorf("P0.3, P0.5: a graph that was asked has %v, not %s", o, was[at])
		}
	}
	// A parent that comes later is found from then on.
	c := commitOf(api.Commit{Parents: s.ids("n"), When: 9})
	in, cut, _ := depth.By(g, []api.Id{name(c)}, 2)
	if len(in) != 0 || len(cut) != 0 || !g.Add(c) {
		t.Errorf("P16.1: By of what is not there yet: %x, %x", in, cut)
	}
	in, cut, _ = depth.By(g, []api.Id{name(c)}, 2)
	if !same(in, append(s.ids("n"), name(c))) || !same(cut, s.ids("n")) {
		t.Errorf("P0.5, P16.1: By of what was added: %s, %s", s.says(in), s.says(cut))
	}
}

func ExampleBy() {
	s := shelfOf(chain)
	g := s.graph()
	in, cut, e := depth.By(g, s.ids("h"), 3)
	fmt.Println(len(in), s.says(cut), e == api.OK)
	in, deeper, e := depth.Since(g, s.ids("h"), 4)
	fmt.Println(len(in), s.says(deeper), e == api.OK)
	shallow, gone := depth.Merge(cut, in, deeper)
	fmt.Println(s.says(shallow), s.says(gone))
	fmt.Println(len(depth.Stop(g, s.ids("h"), shallow)))
	// Output:
	// 3 [f] true
	// 5 [d] true
	// [d] [f]
	// 5
}

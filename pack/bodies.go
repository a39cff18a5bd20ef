package pack

import (
	"cmp"
	"slices"

	"colporteur/api"
	"colporteur/delta"
	"colporteur/object"
)

// Bodies are the objects that items make, round by round: what a round makes is
// a base in those behind it. A base of a name that no round ahead made is held's.
func Bodies(is []Item, held func(api.Id) (int, string, bool)) ([]api.Object, api.Errno) {
	m := begin(is)
	last, e := m.rounds(held)
	switch {
	case e != api.OK:
		return nil, e
	case m.made < len(is):
		return nil, api.ErrLink
	case last > api.MaxChain:
		return nil, api.ErrLimit
	}
	return m.objects, api.OK
}

// making is what Bodies makes of items. That deltas are found by what they wait
// for, and not looked for in each round, keeps long chains short work.
type making struct {
	items   []Item
	objects []api.Object     // of each item, once it is made
	made    int              // how many are
	byBack  [][]int          // of each item, the places of the deltas that tell it as their base by Back
	byName  map[api.Id][]int // places of the deltas that wait for what is of a name
}

// step makes the item at a place: of a base, if it is a delta.
type step struct {
	at   int
	kind int    // of the object that it makes
	base string // what encodes the base
}

// begin is a making of which nothing is made yet. An item that is none waits
// for nothing, and is never made.
func begin(is []Item) *making {
	m := &making{
		items:   is,
		objects: make([]api.Object, len(is)),
		byBack:  make([][]int, len(is)),
		byName:  map[api.Id][]int{},
	}
	for at, i := range is {
		switch {
		case i.Kind == kindByBack && mayBack(i.Back, at):
			m.byBack[at-i.Back] = append(m.byBack[at-i.Back], at)
		case i.Kind == kindByName:
			m.byName[i.Base] = append(m.byName[i.Base], at)
		}
	}
	return m
}

// rounds makes all that can be made, and tells the last round that made any; or
// the first error.
func (m *making) rounds(held func(api.Id) (int, string, bool)) (int, api.Errno) {
	steps, e := m.round(m.wholes())
	if e != api.OK {
		return 0, e
	}
	// What waits for a name that held has is made in round 1, if round 0 made
	// none of that name: so held is asked here alone.
	steps = append(steps, m.leaning(held)...)
	last := 0
	for len(steps) > 0 {
		slices.SortFunc(steps, func(a, b step) int { return cmp.Compare(a.at, b.at) })
		steps, e = m.round(steps)
		if e != api.OK {
			return 0, e
		}
		last++
	}
	return last, api.OK
}

// wholes are the steps of round 0.
func (m *making) wholes() []step {
	var steps []step
	for at, i := range m.items {
		if isWhole(i.Kind) {
			steps = append(steps, step{at: at, kind: i.Kind})
		}
	}
	return steps
}

// round takes steps in their order, and tells those that can come behind them.
func (m *making) round(steps []step) ([]step, api.Errno) {
	var next []step
	for _, s := range steps {
		body, e := m.take(s)
		if e != api.OK {
			return nil, e
		}
		next = append(next, m.behind(s, body)...)
	}
	return next, api.OK
}

// take takes a step, and tells what encodes the object that it makes.
func (m *making) take(s step) (string, api.Errno) {
	i := m.items[s.at]
	body, e := i.Body, api.OK
	if !isWhole(i.Kind) {
		body, e = delta.Apply(s.base, i.Body)
	}
	if e != api.OK {
		return "", e
	}
	m.objects[s.at], e = object.Get(s.kind, body)
	m.made++
	return body, e
}

// behind are the steps of the deltas that wait for what s made as body.
func (m *making) behind(s step, body string) []step {
	id, _ := object.Id(m.objects[s.at])
	places := slices.Concat(m.byBack[s.at], m.byName[id])
	// Another item of that name does not make them once more.
	delete(m.byName, id)
	return stepsOf(places, s.kind, body)
}

// leaning are the steps of the deltas that wait for what held has. Each name is
// asked for once, for the first delta that waits for it.
func (m *making) leaning(held func(api.Id) (int, string, bool)) []step {
	if held == nil {
		return nil
	}
	var steps []step
	for at, i := range m.items {
		places := m.byName[i.Base]
		if len(places) == 0 || places[0] != at {
			continue
		}
		if kind, body, ok := held(i.Base); ok {
			steps = append(steps, stepsOf(places, kind, body)...)
			delete(m.byName, i.Base)
		}
	}
	return steps
}

// stepsOf are the steps of the deltas at places, of one base.
func stepsOf(places []int, kind int, base string) []step {
	var steps []step
	for _, at := range places {
		steps = append(steps, step{at: at, kind: kind, base: base})
	}
	return steps
}

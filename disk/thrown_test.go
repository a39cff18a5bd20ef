package disk_test

import (
	"fmt"
	"maps"
	"math"
	"slices"
	"strings"
	"testing"

	"colporteur/api"
	"colporteur/disk"
)

// step is one of a script: what is called, and what it is handed.
type step struct {
	call string
	a, b string
	n    int
	keep uint64
}

// paper is a disk as the chapter's words go. It holds no files as they are: it
// works them out anew, from all that was done since all was sure.
type paper struct {
	sure  map[string]string
	since []step
	ops   int
	end   int // Ops at which the fuse is burnt; below 0: never
	down  bool
}

func newPaper() *paper { return &paper{sure: map[string]string{}, end: -1} }

// may tells whether a file may have the name.
func may(name string) bool { return name != "" && len([]byte(name)) <= mostName }

// turn does s to files, or tells what is wrong with that.
func turn(files map[string]string, s step) api.Errno {
	_, there := files[s.a]
	switch s.call {
	case "Write":
		if !may(s.a) {
			return api.ErrForm
		}
		if !there && len(files)+1 > mostFiles {
			return api.ErrLimit
		}
		files[s.a] = s.b
	case "Move":
		if !there {
			return api.ErrNone
		}
		if !may(s.b) {
			return api.ErrForm
		}
		text := files[s.a]
		delete(files, s.a)
		files[s.b] = text
	case "Remove":
		if !there {
			return api.ErrNone
		}
		delete(files, s.a)
	}
	return api.OK
}

// files are those of sure, with what was done since, as far as keep tells so of
// its place.
func (p *paper) files(keep func(at int) bool) map[string]string {
	files := maps.Clone(p.sure)
	for at, s := range p.since {
		if keep(at) {
			turn(files, s)
		}
	}
	return files
}

func (p *paper) now() map[string]string { return p.files(func(int) bool { return true }) }

// do does s, and tells its error.
func (p *paper) do(s step) api.Errno {
	switch s.call {
	case "Fuse":
		if !p.down {
			p.end = -1
			if s.n >= 0 && s.n <= math.MaxInt32 {
				p.end = p.ops + s.n
			}
		}
		return api.OK
	case "Crash":
		p.sure = p.files(func(at int) bool { return at < 64 && s.keep&(1<<at) != 0 })
		p.since, p.end, p.down = nil, -1, false
		return api.OK
	}
	if p.down {
		return api.ErrDown
	}
	if e := turn(p.now(), s); e != api.OK {
		return e
	}
	if p.ops == p.end {
		p.down = true
		return api.ErrDown
	}
	p.ops++
	p.since = append(p.since, s)
	if s.call == "Sync" {
		p.sure, p.since = p.now(), nil
	}
	return api.OK
}

// told is what told tells of a disk.
func (p *paper) told() string {
	if p.down {
		return ""
	}
	files := p.now()
	var found []string
	for _, name := range slices.Sorted(maps.Keys(files)) {
		found = append(found, name+"="+files[name])
	}
	return strings.Join(found, " ")
}

// call does s to d, and tells its error.
func call(d *disk.Disk, s step) api.Errno {
	switch s.call {
	case "Write":
		return d.Write(s.a, s.b)
	case "Move":
		return d.Move(s.a, s.b)
	case "Remove":
		return d.Remove(s.a)
	case "Sync":
		return d.Sync()
	case "Fuse":
		d.Fuse(s.n)
	case "Crash":
		d.Crash(s.keep)
	}
	return api.OK
}

// same asks that d and p tell the same, of files and of those that are none.
func same(d *disk.Disk, p *paper) string {
	if got, want := told(d), p.told(); got != want {
		return fmt.Sprintf("the files are %q, not %q", got, want)
	}
	if d.Down() != p.down || d.Ops() != p.ops {
		return fmt.Sprintf("Down: %v, not %v; Ops: %d, not %d", d.Down(), p.down, d.Ops(), p.ops)
	}
	files := p.now()
	for _, name := range []string{"", "a", "b", "c", "f000", "f099", "none", strings.Repeat("n", 101)} {
		text, there := files[name]
		want := api.OK
		if !there {
			want = api.ErrNone
		}
		if p.down {
			text, want = "", api.ErrDown
		}
		if got, e := d.Read(name); got != text || e != want {
			return fmt.Sprintf("Read of %.10q: %q, %d, not %q, %d", name, got, e, text, want)
		}
	}
	return ""
}

// follow does s to both, and asks that they tell the same error.
func follow(d *disk.Disk, p *paper, s step) (api.Errno, string) {
	got, want := call(d, s), p.do(s)
	if got != want {
		return want, fmt.Sprintf("%v: %d, not %d", s, got, want)
	}
	return want, ""
}

// coin throws numbers, the same ones each time.
type coin uint64

// below is one below n.
func (c *coin) below(n int) int {
	*c = *c*6364136223846793005 + 1442695040888963407
	return int(uint64(*c>>33) % uint64(n))
}

// bits are some of sixty-four, sometimes none, few, most or all.
func (c *coin) bits() uint64 {
	one := uint64(c.below(1<<31)) ^ uint64(c.below(1<<31))<<22 ^ uint64(c.below(1<<31))<<33
	switch c.below(6) {
	case 0:
		return 0
	case 1:
		return math.MaxUint64
	case 2:
		return 1 << c.below(64)
	case 3:
		return one | one<<1 | one>>1
	case 4:
		return one & 0xff
	}
	return one
}

// mood is what thrown steps are like.
type mood struct {
	names int  // how many names there are
	calm  bool // a Sync, a Fuse, a Crash is seldom
	full  bool // a Move, a Remove is seldom
}

// name is one of so many, or one that is near none.
func (m mood) name(c *coin) string {
	switch c.below(40) {
	case 0:
		return ""
	case 1:
		return strings.Repeat("n", 99+c.below(4))
	}
	return nth(c.below(m.names))
}

// nth is one of the names.
func nth(n int) string {
	if n < 3 {
		return "abc"[n : n+1]
	}
	return numbered(n - 3)
}

// thrown is a step of any kind.
func (m mood) thrown(c *coin) step {
	kind := c.below(20)
	if kind < 3 && m.calm && c.below(20) > 0 || kind < 12 && m.full && c.below(4) > 0 {
		kind = 12
	}
	switch kind {
	case 0:
		return step{call: "Sync"}
	case 1:
		return step{call: "Fuse", n: c.below(30) - 5}
	case 2:
		return step{call: "Crash", keep: c.bits()}
	case 3, 4, 5, 6:
		return step{call: "Remove", a: m.name(c)}
	case 7, 8, 9, 10, 11:
		return step{call: "Move", a: m.name(c), b: m.name(c)}
	}
	return step{call: "Write", a: m.name(c), b: fmt.Sprint(c.below(1000))}
}

// noRoom tells whether a Crash of p comes to a Write for which there is no room.
func (p *paper) noRoom(keep uint64) bool {
	files := maps.Clone(p.sure)
	for at, s := range p.since {
		if at < 64 && keep&(1<<at) != 0 && turn(files, s) == api.ErrLimit {
			return true
		}
	}
	return false
}

func TestThrownScripts(t *testing.T) {
	c := coin(7)
	seen := map[string]int{}
	for round := range 2000 {
		d, p := disk.New(), newPaper()
		m := mood{names: 3 + c.below(6), calm: round%2 == 0, full: round%4 > 1}
		if m.full {
			m.names = 160
			for at := range 97 {
				follow(d, p, step{call: "Write", a: numbered(at), b: "w"})
			}
			follow(d, p, step{call: "Sync"})
		}
		for range 20 + c.below(150) {
			s := m.thrown(&c)
			if s.call == "Crash" && len(p.since) > 64 {
				seen["Crash behind more than 64"]++
			}
			if s.call == "Crash" && p.noRoom(s.keep) {
				seen["Crash without room"]++
			}
			e, wrong := follow(d, p, s)
			if wrong == "" {
				wrong = same(d, p)
			}
			if wrong != "" {
				t.Fatalf("P13.1: the thrown script %d, %+v: %s", round, s, wrong)
			}
			seen[fmt.Sprint(s.call, " ", e)]++
		}
	}
	for _, what := range []string{"Write 0", "Write 1", "Write 5", "Write 6", "Move 0", "Move 1", "Move 4", "Move 6", "Remove 0", "Remove 4", "Remove 6", "Sync 0", "Sync 6", "Fuse 0", "Crash 0", "Crash behind more than 64", "Crash without room"} {
		if seen[what] < 15 {
			t.Errorf("the thrown scripts see %q too seldom: %v", what, seen)
		}
	}
}

// tellsAlike does the script, and asks that at its end all is told alike.
func tellsAlike(t *testing.T, script []step) {
	d, p := disk.New(), newPaper()
	for _, s := range script {
		if _, wrong := follow(d, p, s); wrong != "" {
			t.Fatalf("P13.1: the script %+v: %s", script, wrong)
		}
	}
	if wrong := same(d, p); wrong != "" {
		t.Fatalf("P13.1: the script %+v: %s", script, wrong)
	}
}

func TestAllShortScripts(t *testing.T) {
	steps := []step{
		{call: "Write", a: "a", b: "1"}, {call: "Write", a: "b", b: "2"},
		{call: "Move", a: "a", b: "b"}, {call: "Move", a: "b", b: "a"}, {call: "Move", a: "a", b: ""},
		{call: "Remove", a: "a"}, {call: "Sync"},
		{call: "Fuse", n: 0}, {call: "Fuse", n: 1}, {call: "Fuse", n: -1},
		{call: "Crash", keep: 0}, {call: "Crash", keep: 1}, {call: "Crash", keep: 2}, {call: "Crash", keep: 3},
	}
	const most = 5
	var grow func(script []step)
	grow = func(script []step) {
		tellsAlike(t, script)
		if len(script) == most {
			return
		}
		for _, s := range steps {
			grow(append(script, s))
		}
	}
	grow(make([]step, 0, most))
}

// start is a disk of nothing, or of a hundred files that are sure.
func start(full bool) (*disk.Disk, *paper) {
	d, p := disk.New(), newPaper()
	if !full {
		return d, p
	}
	for at := range mostFiles {
		name := nth(at)
		d.Write(name, "w")
		p.sure[name] = "w"
	}
	d.Sync()
	p.ops = mostFiles + 1
	return d, p
}

// operationsOf throws so many operations, each of which can be done.
func (m mood) operationsOf(c *coin, n int) []step {
	var script []step
	for _, p := start(m.full); len(script) < n; {
		s := m.thrown(c)
		if s.call == "Crash" || s.call == "Fuse" || s.call == "Sync" && c.below(10) > 0 {
			continue
		}
		if p.do(s) == api.OK {
			script = append(script, s)
		}
	}
	return script
}

// Each choice of what a Crash keeps, behind operations that lean on one another.
func TestEachCrashOfThrownOperations(t *testing.T) {
	c := coin(11)
	noRoom := 0
	for round := range 90 {
		m := mood{names: 3}
		if round%6 == 0 {
			m = mood{names: 130, full: true}
		}
		script := m.operationsOf(&c, 8)
		for keep := range uint64(256) {
			d, p := start(m.full)
			for _, s := range script {
				follow(d, p, s)
			}
			if p.noRoom(keep) {
				noRoom++
			}
			follow(d, p, step{call: "Crash", keep: keep})
			if wrong := same(d, p); wrong != "" {
				t.Fatalf("P13.1: the operations %+v, kept %b: %s", script, keep, wrong)
			}
		}
	}
	if noRoom < 100 {
		t.Errorf("the thrown operations find no room too seldom: %d", noRoom)
	}
}

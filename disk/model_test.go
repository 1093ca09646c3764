package disk_test

import (
	"fmt"
	"maps"
	"math/rand"
	"slices"
	"strings"
	"testing"

	"grommet/api"
	"grommet/disk"
)

// model is the chapter's words written a second time: each state that the names had since the last SyncDir stands there as a whole, and files are never forgotten.
type model struct {
	room, calls, fuse int
	off               bool
	states            []map[string]int
	files             []parts
}

type parts struct{ kept, written string }

// step is a call of the table, or a Start, an Arm, or a Read.
type step struct {
	call     string
	name, to string
	n        int
	keep     []int
}

func (s step) String() string {
	return fmt.Sprintf("%s(%q %q %d %v)", s.call, s.name, s.to, s.n, s.keep)
}

func newModel(room int) *model {
	return &model{room: room, fuse: -1, states: []map[string]int{{}}}
}

func (m *model) names() map[string]int { return m.states[len(m.states)-1] }

func (m *model) rising() []string {
	if m.off {
		return nil
	}
	return slices.Sorted(maps.Keys(m.names()))
}

func (m *model) used() int {
	sum := 0
	for _, name := range m.rising() {
		sum += len(m.bytes(name))
	}
	return sum
}

func (m *model) bytes(name string) string {
	f := m.files[m.names()[name]]
	return f.kept + f.written
}

func mayBe(name string) bool {
	const signs = "abcdefghijklmnopqrstuvwxyz0123456789.-_"
	wrong := func(r rune) bool { return !strings.ContainsRune(signs, r) }
	return len(name) > 0 && len(name) < 33 && !strings.ContainsFunc(name, wrong)
}

// refused is why a call is not done: errors in the chapter's order, the fuse last.
func (m *model) refused(s step) api.Errno {
	if m.off {
		return api.ErrDown
	}
	_, there := m.names()[s.name]
	switch {
	case s.call == "Create" && !mayBe(s.name):
		return api.ErrArg
	case s.call == "Create" && !there && len(m.names()) > 63:
		return api.ErrMany
	case s.call != "Create" && s.call != "SyncDir" && !there:
		return api.ErrNone
	case s.call == "Append" && m.used()+s.n > m.room:
		return api.ErrFull
	case s.call == "Rename" && !mayBe(s.to):
		return api.ErrArg
	}
	return api.OK
}

func (m *model) do(s step, written string) api.Errno {
	switch s.call {
	case "Arm":
		m.fuse = s.n
		return api.OK
	case "Start":
		return m.start(s)
	}
	why := m.refused(s)
	if why != api.OK || s.call == "Read" {
		return why
	}
	if m.fuse == 0 {
		m.off = true
		return api.ErrDown
	}
	m.fuse--
	m.calls++
	m.done(s, written)
	return api.OK
}

func (m *model) done(s step, written string) {
	names := maps.Clone(m.names())
	file := names[s.name]
	switch s.call {
	case "Append":
		m.files[file].written += written
		return
	case "Sync":
		m.files[file] = parts{kept: m.bytes(s.name)}
		return
	case "SyncDir":
		m.states = []map[string]int{names}
		return
	case "Create":
		names[s.name] = len(m.files)
		m.files = append(m.files, parts{})
	case "Remove":
		delete(names, s.name)
	case "Rename":
		if s.name == s.to {
			return
		}
		delete(names, s.name)
		names[s.to] = file
	}
	m.states = append(m.states, names)
}

func (m *model) start(s step) api.Errno {
	if !m.off {
		return api.ErrState
	}
	m.off, m.fuse = false, -1
	m.states = m.states[min(max(s.n, 0), len(m.states)-1):][:1]
	for i, name := range m.rising() {
		f := &m.files[m.names()[name]]
		long := 0
		if i < len(s.keep) {
			long = min(max(s.keep[i], 0), len(f.written))
		}
		*f = parts{kept: f.kept + f.written[:long]}
	}
	return api.OK
}

// call does a step of a disk.
func call(d *disk.Disk, s step, written string) api.Errno {
	switch s.call {
	case "Create":
		return d.Create(s.name)
	case "Append":
		return d.Append(s.name, []byte(written))
	case "Sync":
		return d.Sync(s.name)
	case "Rename":
		return d.Rename(s.name, s.to)
	case "Remove":
		return d.Remove(s.name)
	case "SyncDir":
		return d.SyncDir()
	case "Read":
		_, why := d.Read(s.name)
		return why
	case "Start":
		return d.Start(s.n, s.keep)
	}
	d.Arm(s.n)
	return api.OK
}

// pair is a disk and its model, to which the same is done.
type pair struct {
	d    *disk.Disk
	m    *model
	done []step
}

func newPair(t *testing.T, room int) *pair {
	t.Helper()
	return &pair{d: newDisk(t, room), m: newModel(room)}
}

// do does a step of both, and holds all that they tell against each other.
func (p *pair) do(t *testing.T, s step) {
	t.Helper()
	p.done = append(p.done, s)
	written := text(s, len(p.done))
	if got, want := call(p.d, s, written), p.m.do(s, written); got != want {
		t.Fatalf("%v: %v, want %v", p.done, got, want)
	}
	p.alike(t)
}

// text are bytes that tell which step wrote them, of those that Append may take.
func text(s step, at int) string {
	if s.call != "Append" {
		return ""
	}
	return strings.Repeat(string(rune('A'+at%26)), s.n)
}

func (p *pair) alike(t *testing.T) {
	t.Helper()
	d, m := p.d, p.m
	if d.On() == m.off || d.Calls() != m.calls || d.Used() != m.used() || !slices.Equal(d.Names(), m.rising()) {
		t.Fatalf("%v: on %v, %d calls, %d used, names %q; want %v, %d, %d, %q", p.done,
			d.On(), d.Calls(), d.Used(), d.Names(), !m.off, m.calls, m.used(), m.rising())
	}
	for _, name := range m.rising() {
		if b, why := d.Read(name); string(b) != m.bytes(name) || why != api.OK {
			t.Fatalf("%v: Read(%q) = %q, %v; want %q", p.done, name, b, why, m.bytes(name))
		}
	}
}

// drawn is any step: now and then one that is refused, or that lets the power fail.
func drawn(draw *rand.Rand) step {
	some := []string{"a", "b", "c", "d", "base.new", "", "A"}
	s := step{name: some[draw.Intn(len(some))], to: some[draw.Intn(len(some))]}
	calls := []string{"Create", "Create", "Append", "Append", "Append", "Sync", "Rename", "Rename", "Remove", "SyncDir", "Read", "Arm", "Start"}
	s.call = calls[draw.Intn(len(calls))]
	switch s.call {
	case "Append":
		s.n = draw.Intn(6)
	case "Arm":
		s.n = draw.Intn(12) - 2
	case "Start":
		s.n = draw.Intn(9) - 2
		for range draw.Intn(6) {
			s.keep = append(s.keep, draw.Intn(9)-2)
		}
	}
	return s
}

func TestAnyCallsInAnyOrder(t *testing.T) {
	draw := rand.New(rand.NewSource(5))
	for range 3000 {
		p := newPair(t, draw.Intn(40))
		for range 60 {
			p.do(t, drawn(draw))
		}
	}
}

// script has a name that is created again, renames onto names that are there, their own and new ones, and files that are renamed and removed with bytes that are not kept.
func script() []step {
	return []step{
		{call: "Create", name: "a"}, {call: "Append", name: "a", n: 2}, {call: "Sync", name: "a"},
		{call: "SyncDir"},
		{call: "Append", name: "a", n: 2}, {call: "Rename", name: "a", to: "b"}, {call: "Append", name: "b", n: 1},
		{call: "Create", name: "a"}, {call: "Append", name: "a", n: 3},
		{call: "Rename", name: "a", to: "a"}, {call: "Create", name: "c"}, {call: "Append", name: "c", n: 2},
		{call: "Sync", name: "c"}, {call: "Rename", name: "c", to: "a"}, {call: "Remove", name: "b"},
		{call: "Create", name: "a"}, {call: "Append", name: "a", n: 1}, {call: "Remove", name: "a"},
		{call: "SyncDir"}, {call: "Create", name: "z"},
	}
}

// keeps are numbers for a Start: none, too few, below 0, just some, and too great ones.
func keeps() [][]int {
	return [][]int{nil, {}, {0}, {1}, {-1, 1}, {1, 0}, {2, -7}, {1, 1, 1}, {1 << 40, 1 << 62}, {9, 9, 9, 9}}
}

func TestLossAtEveryPlace(t *testing.T) {
	for fuse := range len(script()) {
		for changes := -2; changes < 12; changes++ {
			for _, keep := range keeps() {
				p := newPair(t, 20)
				p.do(t, step{call: "Arm", n: fuse})
				for _, s := range script() {
					p.do(t, s)
				}
				if p.d.On() || p.d.Calls() != fuse {
					t.Fatalf("a fuse of %d: on %v, %d calls", fuse, p.d.On(), p.d.Calls())
				}
				p.do(t, step{call: "Start", n: changes, keep: keep})
				// Behind a second loss it is as behind the first one.
				p.do(t, step{call: "Arm", n: 0})
				p.do(t, step{call: "SyncDir"})
				p.do(t, step{call: "Start", n: 5, keep: []int{5, 5, 5}})
				for _, s := range script() {
					p.do(t, s)
				}
			}
		}
	}
}

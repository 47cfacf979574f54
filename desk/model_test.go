package desk_test

import (
	"slices"
	"testing"

	"hedgerow/api"
	"hedgerow/desk"
	"hedgerow/sample"
)

// What the tests of several layers say of entities, commands, zones and names.
var (
	name, of, names, badNames = sample.Name, sample.Of, sample.Names, sample.BadNames
	worlds, count, zoneOf     = sample.Worlds, sample.Zones, sample.ZoneOf
	oddNumbers, allNumbers    = sample.OddNumbers, sample.AllNumbers
	begin, end, give, take    = sample.Begin, sample.End, sample.Give, sample.Take
)

// The bits of a Mask that the tests name, and all of them.
const (
	pos, vel, life = 1, 2, 4
	all            = 31
)

// The kinds of commands.
const (
	spawn   = 1
	despawn = 2
)

const (
	block  = 8       // generations that one Reserve sets aside
	maxGen = 1 << 20 // the generation of an index that is worn
)

// commands and dead are short for lists.
func commands(l ...api.Cmd) []api.Cmd { return l }
func dead(l ...api.ID) []api.ID       { return l }

// small is the world of most tests: its zones are 0 and 1, and 2 and 3 below them.
func small() api.Config {
	return api.Config{Cols: 2, Rows: 2, Side: 256, Radius: 20, Speed: 10, Ids: 2, Queue: 4}
}

// tiny has one index in each of two zones.
func tiny() api.Config {
	return api.Config{Cols: 2, Rows: 1, Side: 256, Ids: 1, Queue: 2}
}

// at is a command that lets one begin at a point.
func at(x, y int) api.Cmd {
	return begin(api.Bundle{Mask: pos, X: x, Y: y})
}

// in is one that lets one begin in the midst of a zone.
func in(w api.Config, zone int) api.Cmd {
	return at(zone%w.Cols*w.Side+w.Side/2, zone/w.Cols*w.Side+w.Side/2)
}

// named is a command that lets one begin, with a name.
func named(c api.Cmd, id api.ID) api.Cmd {
	c.B.ID = id
	return c
}

// heal and still are commands for one that is there.
func heal(id api.ID, hp int) api.Cmd { return give(id, api.Bundle{Mask: life, HP: hp}) }
func still(id api.ID) api.Cmd        { return take(id, vel) }

// asked is what a desk, or the model of one, is asked.
type asked interface {
	Look(c api.Cmd) (api.Cmd, bool, api.Errno)
	Reserve(shard, index int) api.Errno
	Admit(c api.Cmd) api.Errno
	Open() (int, []api.Cmd, api.Errno)
	Close(dead ...api.ID) (int, api.Errno)
	Lapse() int
	Tick() (int, bool)
	Waiting() []api.Cmd
	Alive() []api.ID
}

// model is a desk by the chapter's words.
type model struct {
	world api.Config
	pool  *sample.Pool
	waits []api.Cmd
	tick  int
	open  bool
}

func newModel(w api.Config) *model {
	return &model{world: w, pool: sample.NewPool(count(w), w.Ids)}
}

// rule is an error, and whether it applies.
type rule struct {
	e       api.Errno
	applies bool
}

// first is the error that is named first of those that apply.
func first(l ...rule) api.Errno {
	for _, r := range l {
		if r.applies {
			return r.e
		}
	}
	return api.OK
}

// ends tells whether a command that ends one waits.
func (m *model) ends(id api.ID) bool {
	return slices.Contains(m.waits, end(id))
}

func (m *model) Look(c api.Cmd) (api.Cmd, bool, api.Errno) {
	begins, zone := c.Kind == spawn, zoneOf(m.world, c.B)
	index, aside, head := m.pool.Head(zone)
	e := first(
		rule{api.ErrArg, !sample.CommandMayBe(c)},
		rule{api.ErrArg, begins && c.B.ID != name(0, 0, 0)},
		rule{api.ErrRange, begins && zone == -1},
		rule{api.ErrStale, !begins && !m.pool.Alive(c.ID)},
		rule{api.ErrUsed, !begins && m.ends(c.ID)},
		rule{api.ErrFull, len(m.waits) == m.world.Queue},
		rule{api.ErrBusy, begins && head != api.OK},
	)
	switch {
	case e != api.OK:
		return api.Cmd{}, false, e
	case begins:
		return named(c, name(zone, index, m.pool.Gen(zone, index))), !aside, api.OK
	}
	return c, false, api.OK
}

func (m *model) Reserve(shard, index int) api.Errno { return m.pool.Reserve(shard, index) }

func (m *model) Admit(c api.Cmd) api.Errno {
	begins := c.Kind == spawn
	e := first(
		rule{api.ErrArg, !sample.CommandMayBe(c)},
		rule{api.ErrFull, len(m.waits) == m.world.Queue},
		rule{api.ErrRange, begins && zoneOf(m.world, c.B) != c.B.ID.Shard},
		rule{api.ErrStale, !begins && !m.pool.Alive(c.ID)},
	)
	if e == api.OK && begins {
		e = m.pool.Take(c.B.ID)
	}
	if e == api.OK {
		m.waits = append(m.waits, c)
	}
	return e
}

func (m *model) Open() (int, []api.Cmd, api.Errno) {
	if m.open {
		return 0, nil, api.ErrState
	}
	was := m.waits
	m.tick, m.open, m.waits = m.tick+1, true, nil
	return m.tick, was, api.OK
}

func (m *model) Close(dead ...api.ID) (int, api.Errno) {
	if !m.open {
		return 0, api.ErrState
	}
	m.open = false
	n := 0
	for _, id := range dead {
		if m.pool.Alive(id) {
			n++
			m.pool.Free(id)
		}
	}
	return n, api.OK
}

func (m *model) Lapse() int         { return m.pool.Lapse() }
func (m *model) Tick() (int, bool)  { return m.tick, m.open }
func (m *model) Waiting() []api.Cmd { return m.waits }
func (m *model) Alive() []api.ID    { return m.pool.List() }

// deskOf makes a desk.
func deskOf(t *testing.T, w api.Config) *desk.Desk {
	t.Helper()
	d, e := desk.New(w)
	if d == nil || e != api.OK {
		t.Fatalf("New(%+v): %v, %d", w, d != nil, e)
	}
	return d
}

// call is one that may change a desk: r Reserve, a Admit, o Open, c Close, l Lapse.
type call struct {
	what  rune
	cmd   api.Cmd
	names []api.ID // of Close; the index of the first one is that of Reserve
}

// answer is what a call told.
type answer struct {
	n    int
	cmds []api.Cmd
	e    api.Errno
}

// The calls.
func reserve(shard, index int) call { return call{what: 'r', names: dead(name(shard, index, 0))} }
func admit(c api.Cmd) call          { return call{what: 'a', cmd: c} }
func open() call                    { return call{what: 'o'} }
func closed(l ...api.ID) call       { return call{what: 'c', names: l} }
func lapse() call                   { return call{what: 'l'} }

// do calls a desk, or a model of one.
func do(d asked, c call) answer {
	var a answer
	switch c.what {
	case 'r':
		a.e = d.Reserve(c.names[0].Shard, c.names[0].Index)
	case 'a':
		a.e = d.Admit(c.cmd)
	case 'o':
		a.n, a.cmds, a.e = d.Open()
	case 'c':
		a.n, a.e = d.Close(c.names...)
	case 'l':
		a.n = d.Lapse()
	}
	return a
}

// both calls a desk and its model, which must answer alike; what both answer is told.
func both(t *testing.T, d *desk.Desk, m *model, c call) answer {
	t.Helper()
	got, want := do(d, c), do(m, c)
	if got.n != want.n || got.e != want.e || !slices.Equal(got.cmds, want.cmds) {
		t.Errorf("%c %+v %v: %+v, want %+v", c.what, c.cmd, c.names, got, want)
	}
	return want
}

// mustLookAlike says so if a desk tells something else than the model of how a command would be let in.
func mustLookAlike(t *testing.T, d *desk.Desk, m *model, c api.Cmd) {
	t.Helper()
	got, must, e := d.Look(c)
	if want, wantMust, wantE := m.Look(c); got != want || must != wantMust || e != wantE {
		t.Errorf("Look(%+v): %+v, %v, %d; want %+v, %v, %d", c, got, must, e, want, wantMust, wantE)
	}
}

// mustBeAlike says so if a desk tells something else than the model; nothing changes.
func mustBeAlike(t *testing.T, d *desk.Desk, m *model) {
	t.Helper()
	n, is := d.Tick()
	if want, wantIs := m.Tick(); n != want || is != wantIs {
		t.Errorf("Tick: %d, %v; want %d, %v", n, is, want, wantIs)
	}
	mustWait(t, d, m.Waiting()...)
	mustLive(t, d, m.Alive()...)
	mustLookAlike(t, d, m, at(-1, 0))
	for k := range count(m.world) {
		mustLookAlike(t, d, m, in(m.world, k))
		for i := range m.world.Ids {
			for back := range 3 {
				id := name(k, i, max(0, m.pool.Gen(k, i)+1-back))
				mustLookAlike(t, d, m, end(id))
				mustLookAlike(t, d, m, heal(id, 3))
			}
		}
	}
}

// told is what Look told.
type told struct {
	cmd  api.Cmd
	must bool
	e    api.Errno
}

// follows lets one begin in each zone until it has no name left, in ticks at whose ends nobody is no more: what Look told ahead of each.
func follows(d asked, w api.Config) []told {
	var l []told
	for zone := range count(w) {
		for range w.Ids + 1 {
			if len(d.Waiting()) == w.Queue {
				d.Close()
				d.Open()
			}
			c, must, e := d.Look(in(w, zone))
			l = append(l, told{c, must, e})
			if must {
				d.Reserve(zone, c.B.ID.Index)
			}
			d.Admit(c)
		}
	}
	return l
}

// mustEndAlike says so if a desk's names that follow are not another one's; none is free behind it.
func mustEndAlike(t *testing.T, d, other asked, w api.Config) {
	t.Helper()
	if l, want := follows(d, w), follows(other, w); !slices.Equal(l, want) {
		t.Errorf("what follows: %+v, want %+v", l, want)
	}
}

// must says so if an answer is another one.
func must(t *testing.T, what string, got, want api.Errno) {
	t.Helper()
	if got != want {
		t.Errorf("%s: %d, want %d", what, got, want)
	}
}

// mustLook says so if Look tells another command, or an error.
func mustLook(t *testing.T, d asked, c, want api.Cmd, wantMust bool) {
	t.Helper()
	if got, must, e := d.Look(c); got != want || must != wantMust || e != api.OK {
		t.Errorf("Look(%+v): %+v, %v, %d; want %+v, %v", c, got, must, e, want, wantMust)
	}
}

// mustNotLook says so if Look does not answer this error alone.
func mustNotLook(t *testing.T, d asked, c api.Cmd, want api.Errno) {
	t.Helper()
	if got, must, e := d.Look(c); got != (api.Cmd{}) || must || e != want {
		t.Errorf("Look(%+v): %+v, %v, %d; want the error %d alone", c, got, must, e, want)
	}
}

// mustReserve sets generations of an index aside, so often.
func mustReserve(t *testing.T, d asked, k, i, often int) {
	t.Helper()
	for n := range often {
		if e := d.Reserve(k, i); e != api.OK {
			t.Fatalf("Reserve(%d, %d): %d, behind %d such", k, i, e, n)
		}
	}
}

// mustAdmit lets commands in.
func mustAdmit(t *testing.T, d asked, l ...api.Cmd) {
	t.Helper()
	for _, c := range l {
		if e := d.Admit(c); e != api.OK {
			t.Errorf("Admit(%+v): %d", c, e)
		}
	}
}

// mustNotAdmit says so if a command is let in, or the error is another one.
func mustNotAdmit(t *testing.T, d asked, c api.Cmd, want api.Errno) {
	t.Helper()
	was := slices.Clone(d.Waiting())
	if e := d.Admit(c); e != want {
		t.Errorf("Admit(%+v): %d, want %d", c, e, want)
	}
	mustWait(t, d, was...)
}

// letIn lets a command in as Look tells it, and tells it so.
func letIn(t *testing.T, d asked, c api.Cmd) api.Cmd {
	t.Helper()
	c, must, e := d.Look(c)
	if e != api.OK {
		t.Fatalf("Look: %d", e)
	}
	if must {
		mustReserve(t, d, c.B.ID.Shard, c.B.ID.Index, 1)
	}
	mustAdmit(t, d, c)
	return c
}

// mustOpen says so if another tick is opened, or it has other commands.
func mustOpen(t *testing.T, d asked, want int, cmds ...api.Cmd) {
	t.Helper()
	if n, l, e := d.Open(); n != want || !slices.Equal(l, cmds) || e != api.OK {
		t.Errorf("Open: %d, %+v, %d; want %d, %+v", n, l, e, want, cmds)
	}
	mustStand(t, d, want, true)
	mustWait(t, d)
}

// mustNotOpen says so if Open does not answer ErrState alone.
func mustNotOpen(t *testing.T, d asked) {
	t.Helper()
	if n, l, e := d.Open(); n != 0 || len(l) != 0 || e != api.ErrState {
		t.Errorf("Open: %d, %+v, %d; want ErrState alone", n, l, e)
	}
}

// mustClose says so if another number of names is taken back.
func mustClose(t *testing.T, d asked, want int, l ...api.ID) {
	t.Helper()
	was, _ := d.Tick()
	if n, e := d.Close(l...); n != want || e != api.OK {
		t.Errorf("Close(%v): %d, %d; want %d", l, n, e, want)
	}
	mustStand(t, d, was, false)
}

// mustNotClose says so if Close does not answer ErrState alone.
func mustNotClose(t *testing.T, d asked, l ...api.ID) {
	t.Helper()
	if n, e := d.Close(l...); n != 0 || e != api.ErrState {
		t.Errorf("Close(%v): %d, %d; want ErrState alone", l, n, e)
	}
}

// mustEnd has a tick in which all that waits is done, and these are no more.
func mustEnd(t *testing.T, d asked, l ...api.ID) {
	t.Helper()
	if _, _, e := d.Open(); e != api.OK {
		t.Errorf("Open: %d", e)
	}
	mustClose(t, d, len(l), l...)
}

func mustLapse(t *testing.T, d asked, want int) {
	t.Helper()
	if n := d.Lapse(); n != want {
		t.Errorf("Lapse: %d, want %d", n, want)
	}
}

func mustStand(t *testing.T, d asked, want int, open bool) {
	t.Helper()
	if n, is := d.Tick(); n != want || is != open {
		t.Errorf("Tick: %d, %v; want %d, %v", n, is, want, open)
	}
}

func mustWait(t *testing.T, d asked, want ...api.Cmd) {
	t.Helper()
	if l := d.Waiting(); !slices.Equal(l, want) {
		t.Errorf("Waiting: %+v, want %+v", l, want)
	}
}

func mustLive(t *testing.T, d asked, want ...api.ID) {
	t.Helper()
	if l := d.Alive(); !slices.Equal(l, want) {
		t.Errorf("Alive: %v, want %v", l, want)
	}
}

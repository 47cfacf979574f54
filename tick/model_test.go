package tick_test

import (
	"slices"
	"testing"

	"hedgerow/api"
	"hedgerow/sample"
	"hedgerow/tick"
	"hedgerow/zones"
)

// What the tests of several layers say of entities.
var (
	name, of, with, names     = sample.Name, sample.Of, sample.With, sample.Names
	ahead, worlds, numbers    = sample.Ahead, sample.Worlds, sample.Numbers
	oddNumbers, allNumbers    = sample.OddNumbers, sample.AllNumbers
	anyEntity, anything, some = sample.Any, sample.Anything, sample.Some
	begin, end, give, take    = sample.Begin, sample.End, sample.Give, sample.Take
	count, apart, zoneOf      = sample.Zones, sample.Outside, sample.ZoneOf
)

// The bits of a Mask, and all of them.
const (
	pos, vel, life, power, left = 1, 2, 4, 8, 16
	all                         = 31
)

// spawn is the kind of the commands that let one begin.
const spawn = 1

// result, entities and dead are short for what a tick is asked, and leaves.
type result = tick.Result

func entities(l ...api.Bundle) []api.Bundle { return l }
func dead(l ...api.ID) []api.ID             { return l }

// small is the world of most tests: its zones are 0 and 1, and 2 and 3 below them.
func small() api.Config {
	return api.Config{Cols: 2, Rows: 2, Side: 256, Radius: 20, Speed: 10, Ids: 4, Queue: 4}
}

// standing has nothing but its place.
func standing(id api.ID, x, y int) api.Bundle {
	return api.Bundle{ID: id, Mask: pos, X: x, Y: y}
}

// weak has Life and no Power.
func weak(id api.ID, x, y, hp int) api.Bundle {
	return api.Bundle{ID: id, Mask: pos | life, X: x, Y: y, HP: hp}
}

// strong has Power and no Life.
func strong(id api.ID, x, y, n int) api.Bundle {
	return api.Bundle{ID: id, Mask: pos | power, X: x, Y: y, Power: n}
}

// moving has Vel.
func moving(id api.ID, x, y, vx, vy int) api.Bundle {
	return api.Bundle{ID: id, Mask: pos | vel, X: x, Y: y, VX: vx, VY: vy}
}

// ageing has Left.
func ageing(id api.ID, n int) api.Bundle {
	return api.Bundle{ID: id, Mask: pos | left, Left: n}
}

// giveLife, giveLeft and giveVel set one component.
func giveLife(id api.ID, hp int) api.Cmd    { return give(id, api.Bundle{Mask: life, HP: hp}) }
func giveLeft(id api.ID, n int) api.Cmd     { return give(id, api.Bundle{Mask: left, Left: n}) }
func giveVel(id api.ID, vx, vy int) api.Cmd { return give(id, api.Bundle{Mask: vel, VX: vx, VY: vy}) }

// mapOf is a world's.
func mapOf(c api.Config) *zones.Map { return &zones.Map{Config: c} }

// beside tells whether two zones are the same, or lie beside one another.
func beside(c api.Config, one, other int) bool {
	i, j := one%c.Cols-other%c.Cols, one/c.Cols-other/c.Cols
	return max(i, -i, j, -j) <= 1
}

// rising is entities by their names; those of one name as they stand.
func rising(l []api.Bundle) []api.Bundle {
	var out []api.Bundle
	for _, b := range l {
		at := len(out)
		for at > 0 && ahead(b.ID, out[at-1].ID) {
			at--
		}
		out = slices.Insert(out, at, b)
	}
	return out
}

// model is a tick by the chapter's words.
type model struct {
	l    []api.Bundle // all that are there
	dead []api.ID     // as they died
}

func (m *model) each(do func(b api.Bundle) (api.Bundle, bool)) {
	for at := 0; at < len(m.l); at++ {
		b, is := do(m.l[at])
		if is {
			m.l[at] = b
			continue
		}
		m.dead = append(m.dead, m.l[at].ID)
		m.l = slices.Delete(m.l, at, at+1)
		at--
	}
}

func (m *model) named(id api.ID) bool {
	return slices.ContainsFunc(m.l, func(b api.Bundle) bool { return b.ID == id })
}

func (m *model) do(c api.Config, zone int, cmd api.Cmd) {
	if cmd.Kind != spawn {
		m.each(func(b api.Bundle) (api.Bundle, bool) { return sample.Obey(b, cmd) })
		return
	}
	if at := zoneOf(c, cmd.B); at >= 0 && (at == zone || zone == -1) && !m.named(cmd.B.ID) {
		m.l = rising(append(m.l, cmd.B))
	}
}

// names is the dead, rising, each once.
func (m *model) names() []api.ID {
	var l []api.Bundle
	for _, id := range m.dead {
		if !slices.Contains(l, api.Bundle{ID: id}) {
			l = append(l, api.Bundle{ID: id})
		}
	}
	var out []api.ID
	for _, b := range rising(l) {
		out = append(out, b.ID)
	}
	return out
}

// run is Run by the chapter's words, in a world.
func run(c api.Config, zone int, own, near []api.Bundle, cmds ...api.Cmd) result {
	if zone < -1 || zone >= count(c) {
		return result{}
	}
	m := model{l: rising(own)}
	hits := sample.Hits(c.Radius, own, near)
	m.each(func(b api.Bundle) (api.Bundle, bool) {
		for _, h := range hits {
			if h.ID == b.ID {
				return sample.Hurt(b, h.Sum)
			}
		}
		return b, true
	})
	for _, cmd := range cmds {
		m.do(c, zone, cmd)
	}
	m.each(func(b api.Bundle) (api.Bundle, bool) { return sample.Age(sample.Move(c, b)) })
	r := result{Dead: m.names()}
	for _, b := range m.l {
		if zone == -1 || zoneOf(c, b) == zone {
			r.Own = append(r.Own, b)
		} else {
			r.Gone = append(r.Gone, b)
		}
	}
	return r
}

// same tells whether two ticks leave the same.
func same(r, other result) bool {
	return slices.Equal(r.Own, other.Own) && slices.Equal(r.Gone, other.Gone) && slices.Equal(r.Dead, other.Dead)
}

// mustRun says so if a tick leaves something else.
func mustRun(t *testing.T, c api.Config, zone int, own, near []api.Bundle, want result, cmds ...api.Cmd) {
	t.Helper()
	if got := tick.Run(mapOf(c), zone, own, near, cmds...); !same(got, want) {
		t.Errorf("Run(%+v, %d, %+v, %+v, %+v):\n%+v, want\n%+v", c, zone, own, near, cmds, got, want)
	}
}

// mustRunAsModelled says so if a tick leaves something else than the chapter says.
func mustRunAsModelled(t *testing.T, c api.Config, zone int, own, near []api.Bundle, cmds ...api.Cmd) {
	t.Helper()
	mustRun(t, c, zone, own, near, run(c, zone, own, near, cmds...), cmds...)
}

// mustLeave says so if a tick of the small world's zone 0 leaves something else.
func mustLeave(t *testing.T, own []api.Bundle, want result, cmds ...api.Cmd) {
	t.Helper()
	mustRun(t, small(), 0, own, nil, want, cmds...)
}

// anyCommand is one for one of some names.
func anyCommand(seed *sample.Chance, c api.Config, of func(seed *sample.Chance, names, side int) api.Bundle, names int) api.Cmd {
	b := of(seed, names, c.Side)
	kind := 1 + seed.Below(4)
	if kind == spawn {
		b.X += c.Side * seed.Below(c.Cols)
		b.Y += c.Side * seed.Below(c.Rows)
	}
	return sample.Command(kind, b)
}

// commands is as many at most.
func commands(seed *sample.Chance, c api.Config, most int, of func(seed *sample.Chance, names, side int) api.Bundle, names int) []api.Cmd {
	var l []api.Cmd
	for range seed.Below(most + 1) {
		l = append(l, anyCommand(seed, c, of, names))
	}
	return l
}

package systems_test

import (
	"math"
	"slices"
	"testing"

	"hedgerow/api"
	"hedgerow/sample"
	"hedgerow/systems"
	"hedgerow/zones"
)

// What the tests of several layers say of entities.
var (
	name, of, with        = sample.Name, sample.Of, sample.With
	mayBe, over, less     = sample.MayBe, sample.Over, sample.Less
	numbers, nameParts    = sample.Numbers, sample.Parts
	oddNumbers, ahead     = sample.OddNumbers, sample.Ahead
	fixed, nearest, apart = sample.Fixed, sample.Nearest, sample.Apart
)

// The bits of a Mask, and all of them.
const (
	pos, vel, life, power, left = 1, 2, 4, 8, 16
	all                         = 31
)

// The kinds of commands.
const (
	spawn, despawn, set, drop = 1, 2, 3, 4
)

const (
	far    = 1 << 30 // the greatest fixed number
	maxGen = 1 << 20
)

// weak has Life and no Power, at a place.
func weak(id api.ID, x, y int) api.Bundle {
	return api.Bundle{ID: id, Mask: pos | life, X: x, Y: y, HP: 9}
}

// strong has Power and no Life, at a place.
func strong(id api.ID, x, y, n int) api.Bundle {
	return api.Bundle{ID: id, Mask: pos | power, X: x, Y: y, Power: n}
}

// hit is one.
func hit(id api.ID, sum int) api.Hit { return api.Hit{ID: id, Sum: sum} }

// hits is Hits by the chapter's words.
func hits(radius int, own, others []api.Bundle) []api.Hit {
	var l []api.Hit
	for _, b := range own {
		if b.Mask&life == 0 {
			continue
		}
		sum := 0
		for _, from := range [][]api.Bundle{own, others} {
			for _, c := range from {
				if c.Mask&power != 0 && c.ID != b.ID && apart(b, c) <= radius {
					sum = fixed(sum + fixed(c.Power))
				}
			}
		}
		if sum <= 0 {
			continue
		}
		at := len(l)
		for at > 0 && ahead(b.ID, l[at-1].ID) { // behind those of its own name
			at--
		}
		l = slices.Insert(l, at, hit(b.ID, sum))
	}
	return l
}

// hurt is Hurt by the chapter's words.
func hurt(b api.Bundle, sum int) (api.Bundle, bool) {
	switch {
	case b.Mask&life == 0 || sum < 1:
		return b, true
	case b.HP > sum:
		return with(b, numbers()[4].In, b.HP-sum), true
	}
	return api.Bundle{}, false
}

// age is Age by the chapter's words.
func age(b api.Bundle) (api.Bundle, bool) {
	switch {
	case b.Mask&left == 0:
		return b, true
	case b.Left > 1:
		return with(b, numbers()[6].In, b.Left-1), true
	}
	return api.Bundle{}, false
}

// move is Move by the chapter's words, in a world.
func move(c api.Config, b api.Bundle) api.Bundle {
	if b.Mask&vel != 0 {
		b.X = fixed(fixed(b.X) + nearest(b.VX, -c.Speed, c.Speed))
		b.Y = fixed(fixed(b.Y) + nearest(b.VY, -c.Speed, c.Speed))
	}
	b.X = nearest(b.X, 0, c.Cols*c.Side-1)
	b.Y = nearest(b.Y, 0, c.Rows*c.Side-1)
	return b
}

// obey is Obey by the chapter's words.
func obey(b api.Bundle, c api.Cmd) (api.Bundle, bool) {
	switch {
	case c.ID == b.ID && c.Kind == despawn:
		return api.Bundle{}, false
	case c.ID == b.ID && c.Kind == set:
		return over(b, c.B), true
	case c.ID == b.ID && c.Kind == drop:
		return less(b, c.Mask), true
	}
	return b, true
}

// mustHit says so if others are hit, or they take something else.
func mustHit(t *testing.T, radius int, own, others []api.Bundle, want ...api.Hit) {
	t.Helper()
	if got := systems.Hits(radius, own, others...); !slices.Equal(got, want) {
		t.Errorf("Hits(%d, %+v, %+v): %v, want %v", radius, own, others, got, want)
	}
}

// mustHitAsModelled says so if Hits tells something else than the chapter.
func mustHitAsModelled(t *testing.T, radius int, own, others []api.Bundle) {
	t.Helper()
	mustHit(t, radius, own, others, hits(radius, own, others)...)
}

// mustLeave says so if something else is left of an entity.
func mustLeave(t *testing.T, what string, got api.Bundle, is bool, want api.Bundle, wantIs bool) {
	t.Helper()
	if got != want || is != wantIs {
		t.Errorf("%s: %+v, %v, want %+v, %v", what, got, is, want, wantIs)
	}
}

// mustMove says so if an entity stands elsewhere, or is another one.
func mustMove(t *testing.T, m *zones.Map, b, want api.Bundle) {
	t.Helper()
	if got := systems.Move(m, b); got != want {
		t.Errorf("Move(%+v, %+v): %+v, want %+v", m, b, got, want)
	}
}

// worlds is such as may be: with no speed, and the greatest one, and at both ends of their size.
func worlds() []api.Config {
	return []api.Config{
		{Cols: 1, Rows: 1, Side: 256, Ids: 1, Queue: 1},
		{Cols: 2, Rows: 1, Side: 256, Radius: 9, Speed: 10, Ids: 1, Queue: 1},
		{Cols: 1, Rows: 3, Side: 300, Radius: 300, Speed: 300, Ids: 16, Queue: 64},
		{Cols: 4, Rows: 2, Side: 1000, Radius: 1, Speed: 1, Ids: 1, Queue: 1},
		{Cols: 4, Rows: 4, Side: 1 << 20, Radius: 1 << 20, Speed: 1 << 20, Ids: 16, Queue: 64},
	}
}

// mapOf is a world's.
func mapOf(t *testing.T, c api.Config) *zones.Map {
	t.Helper()
	m, e := zones.New(c)
	if e != api.OK {
		t.Fatalf("New(%+v): %d", c, e)
	}
	return m
}

// allNumbers is the odd ones and those about 0.
func allNumbers() []int {
	l := append(oddNumbers(), 0, 1, 2, 3, 4, 5, 8, 9, 10, 11, 13, 20, 30, 31)
	slices.Sort(l)
	return slices.Compact(l)
}

// names is one, those that differ from it in one part, and such as may not be.
func names() []api.ID {
	return []api.ID{
		name(0, 0, 0), name(0, 0, 1), name(0, 1, 0), name(1, 0, 0), name(15, 15, maxGen-1),
		name(-1, 0, 0), name(0, 0, 1<<32), name(math.MinInt, 3, math.MaxInt),
	}
}

// anyEntity is one of some names that may be, within a square.
func anyEntity(seed *sample.Chance, names, side int) api.Bundle {
	i := seed.Below(names)
	b := of(name(i%5, i/5%7, i/35), pos|seed.Below(all+1), seed.Below(100))
	b.X, b.Y = seed.Below(side), seed.Below(side)
	return b
}

// anything is now and then an entity that may not be.
func anything(seed *sample.Chance, names, side int) api.Bundle {
	b := anyEntity(seed, names, side)
	odd := oddNumbers()
	for range seed.Below(3) {
		switch n := odd[seed.Below(len(odd))]; seed.Below(4) {
		case 0:
			b.Mask = n
		case 1:
			*nameParts()[seed.Below(3)].In(&b.ID) = n
		default:
			*numbers()[seed.Below(7)].In(&b) = n
		}
	}
	return b
}

// some is a list of as many at most, made by one of both.
func some(seed *sample.Chance, most int, one func(seed *sample.Chance, names, side int) api.Bundle) []api.Bundle {
	var l []api.Bundle
	for range seed.Below(most + 1) {
		l = append(l, one(seed, 12, 40))
	}
	return l
}

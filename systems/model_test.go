package systems_test

import (
	"slices"
	"testing"

	"hedgerow/api"
	"hedgerow/sample"
	"hedgerow/systems"
	"hedgerow/zones"
)

// What the tests of several layers say of entities.
var (
	name, of, with, names    = sample.Name, sample.Of, sample.With, sample.Names
	mayBe, over, less, ahead = sample.MayBe, sample.Over, sample.Less, sample.Ahead
	numbers, fixed, worlds   = sample.Numbers, sample.Fixed, sample.Worlds
	oddNumbers, allNumbers   = sample.OddNumbers, sample.AllNumbers
	anyEntity, anything      = sample.Any, sample.Anything
	some                     = sample.Some
	hits, hurt, age          = sample.Hits, sample.Hurt, sample.Age
	move, obey               = sample.Move, sample.Obey
)

// The bits of a Mask, and all of them.
const (
	pos, vel, life, power, left = 1, 2, 4, 8, 16
	all                         = 31
)

// The kinds of commands.
const (
	spawn, despawn, set, drop = 1, 2, 3, 4
)

const far = 1 << 30 // the greatest fixed number

// weak has Life and no Power, at a place.
func weak(id api.ID, x, y int) api.Bundle {
	return api.Bundle{ID: id, Mask: pos | life, X: x, Y: y, HP: 9}
}

// strong has Power and no Life, at a place.
func strong(id api.ID, x, y, n int) api.Bundle {
	return api.Bundle{ID: id, Mask: pos | power, X: x, Y: y, Power: n}
}

// hit is one.
func hit(id api.ID, sum int) api.Hit { return api.Hit{ID: id, Sum: sum} }

// mustHit says so if others are hit, or they take something else.
func mustHit(t *testing.T, radius int, own, others []api.Bundle, want ...api.Hit) {
	t.Helper()
	if got := systems.Hits(radius, own, others...); !slices.Equal(got, want) {
		t.Errorf("Hits(%d, %+v, %+v): %v, want %v", radius, own, others, got, want)
	}
}

// mustHitAsModelled says so if Hits tells something else than the chapter.
func mustHitAsModelled(t *testing.T, radius int, own, others []api.Bundle) {
	t.Helper()
	mustHit(t, radius, own, others, hits(radius, own, others)...)
}

// mustLeave says so if something else is left of an entity.
func mustLeave(t *testing.T, what string, got api.Bundle, is bool, want api.Bundle, wantIs bool) {
	t.Helper()
	if got != want || is != wantIs {
		t.Errorf("%s: %+v, %v, want %+v, %v", what, got, is, want, wantIs)
	}
}

// mustMove says so if an entity stands elsewhere, or is another one.
func mustMove(t *testing.T, m *zones.Map, b, want api.Bundle) {
	t.Helper()
	if got := systems.Move(m, b); got != want {
		t.Errorf("Move(%+v, %+v): %+v, want %+v", m, b, got, want)
	}
}

// mapOf is a world's.
func mapOf(t *testing.T, c api.Config) *zones.Map {
	t.Helper()
	m, e := zones.New(c)
	if e != api.OK {
		t.Fatalf("New(%+v): %d", c, e)
	}
	return m
}

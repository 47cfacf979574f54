package query_test

import (
	"iter"
	"math"
	"slices"
	"testing"

	"hedgerow/api"
	"hedgerow/arch"
	"hedgerow/query"
	"hedgerow/sample"
)

// name is one.
var name = sample.Name

// The bits of a Mask, and all of them.
const (
	pos, vel, life, power, left = 1, 2, 4, 8, 16
	all                         = 31
)

const (
	far    = 1 << 30 // the greatest fixed number
	maxGen = 1 << 20
)

// everything is the query that asks for all.
var everything = api.Query{}

// standing is an entity of a name and a mask, at a point.
func standing(id api.ID, mask, x, y int) api.Bundle {
	b := api.Bundle{ID: id, Mask: mask, X: x, Y: y}
	if mask&vel != 0 {
		b.VX, b.VY = id.Index+1, id.Gen-1
	}
	if mask&life != 0 {
		b.HP = 1 + id.Index
	}
	if mask&power != 0 {
		b.Power = id.Shard
	}
	if mask&left != 0 {
		b.Left = 3
	}
	return b
}

// storeOf is a store into which these were put.
func storeOf(t *testing.T, l ...api.Bundle) *arch.Store {
	t.Helper()
	s := arch.New()
	for _, b := range l {
		if e := s.Put(b); e != api.OK {
			t.Fatalf("Put(%+v): %d", b, e)
		}
	}
	return s
}

// bit is one of a number's 64, of a number below 0 too.
func bit(n, i int) bool { return uint64(n)>>i&1 == 1 }

// asks is what the chapter says of a query and a mask, bit by bit.
func asks(q api.Query, mask int) bool {
	for i := 0; i < 64; i++ {
		if bit(q.All, i) && !bit(mask, i) {
			return false
		}
		if bit(q.None, i) && bit(mask, i) {
			return false
		}
	}
	return true
}

// ahead is which of two names comes first: -1, 0 or 1.
func ahead(a, b api.ID) int {
	for _, x := range [][2]int{{a.Shard, b.Shard}, {a.Index, b.Index}, {a.Gen, b.Gen}} {
		if x[0] < x[1] {
			return -1
		}
		if x[0] > x[1] {
			return 1
		}
	}
	return 0
}

// counts is a number that is handed to rect, as it counts there.
func counts(n int) int {
	if n > far {
		return far
	}
	if n < -far {
		return -far
	}
	return n
}

func size(n int) int {
	if n < 0 {
		return -n
	}
	return n
}

// apart is how far an entity lies apart from a point.
func apart(b api.Bundle, x, y int) int {
	dx, dy := size(b.X-counts(x)), size(b.Y-counts(y))
	if dx > dy {
		return dx
	}
	return dy
}

// inside is whether a rectangle has an entity's point.
func inside(b api.Bundle, r api.Rect) bool {
	return counts(r.X0) <= b.X && b.X < counts(r.X1) && counts(r.Y0) <= b.Y && b.Y < counts(r.Y1)
}

// wanted is those of a list for which a query asks, and of which something holds, rising.
func wanted(l []api.Bundle, q api.Query, holds func(b api.Bundle) bool) []api.Bundle {
	var found []api.Bundle
	for _, b := range l {
		if asks(q, b.Mask) && holds(b) {
			found = append(found, b)
		}
	}
	slices.SortFunc(found, func(a, b api.Bundle) int { return ahead(a.ID, b.ID) })
	return found
}

// yes holds of all.
func yes(api.Bundle) bool { return true }

// nearest is entities that rise: each time the one that lies the least far apart of those that are left, of several the first.
func nearest(rising []api.Bundle, x, y int) []api.Bundle {
	var l []api.Bundle
	left := slices.Clone(rising)
	for len(left) > 0 {
		best := 0
		for i, b := range left {
			if apart(b, x, y) < apart(left[best], x, y) {
				best = i
			}
		}
		l = append(l, left[best])
		left = slices.Delete(left, best, best+1)
	}
	return l
}

// namesOf tells those of entities, in order.
func namesOf(l []api.Bundle) []api.ID {
	var names []api.ID
	for _, b := range l {
		names = append(names, b.ID)
	}
	return names
}

// mustAnswer says so if IDs, Count or Each answers otherwise than what is asked for of a list, which is what the store has.
func mustAnswer(t *testing.T, s *arch.Store, l []api.Bundle, q api.Query) {
	t.Helper()
	want := wanted(l, q, yes)
	mustName(t, query.IDs(s, q), want, "IDs(%+v)", q)
	if n := query.Count(s, q); n != len(want) {
		t.Errorf("Count(%+v): %d, want %d", q, n, len(want))
	}
	mustYield(t, query.Each(s, q), want)
}

// mustBeWithin says so if Within answers otherwise.
func mustBeWithin(t *testing.T, s *arch.Store, l []api.Bundle, q api.Query, r api.Rect) {
	t.Helper()
	want := wanted(l, q, func(b api.Bundle) bool { return inside(b, r) })
	mustName(t, query.Within(s, q, r), want, "Within(%+v, %+v)", q, r)
}

// mustBeNear says so if Near answers otherwise.
func mustBeNear(t *testing.T, s *arch.Store, l []api.Bundle, q api.Query, x, y, d int) {
	t.Helper()
	want := nearest(wanted(l, q, func(b api.Bundle) bool { return apart(b, x, y) <= d }), x, y)
	mustName(t, query.Near(s, q, x, y, d), want, "Near(%+v, %d, %d, %d)", q, x, y, d)
}

// mustName says so if names are not just those of some entities, in their order.
func mustName(t *testing.T, got []api.ID, want []api.Bundle, what string, arguments ...any) {
	t.Helper()
	if l := namesOf(want); !slices.Equal(got, l) {
		t.Errorf(what+": %v, want %v", append(arguments, got, l)...)
	}
}

// mustYield says so if others are yielded, or in another order.
func mustYield(t *testing.T, seq iter.Seq[api.Bundle], want []api.Bundle) {
	t.Helper()
	var got []api.Bundle
	for b := range seq {
		if got = append(got, b); len(got) > len(want) {
			break
		}
	}
	if !slices.Equal(got, want) {
		t.Errorf("yielded: %+v, want %+v", got, want)
	}
}

// mustNames says so if names are others than these.
func mustNames(t *testing.T, what string, got []api.ID, want ...api.ID) {
	t.Helper()
	if !slices.Equal(got, want) {
		t.Errorf("%s: %v, want %v", what, got, want)
	}
}

// queries is all of the components that there are.
func queries() []api.Query {
	var l []api.Query
	for with := 0; with <= all; with++ {
		for without := 0; without <= all; without++ {
			l = append(l, api.Query{All: with, None: without})
		}
	}
	return l
}

// oddMasks is numbers that are no masks of entities: some have the bits of such, and others.
func oddMasks() []int {
	l := []int{math.MinInt, math.MinInt + 1, math.MaxInt, math.MaxInt - 1, -33, -32, -31, -16, -2, -1, 32, 33, 37, 48, 63, 64, 95}
	for i := 5; i < 63; i += 6 {
		l = append(l, 1<<i, 1<<i|life, -1<<i, -1<<i|all)
	}
	return append(l, 1<<31, 1<<32, 1<<32|pos, 1<<62, 1<<62|all)
}

// oddQueries is those that ask for, or against, components that there are not.
func oddQueries() []api.Query {
	var l []api.Query
	for _, n := range oddMasks() {
		for _, mask := range []int{0, pos, life, pos | left, all} {
			l = append(l, api.Query{All: n, None: mask}, api.Query{All: mask, None: n}, api.Query{All: n, None: n})
		}
	}
	return l
}

// masks is all those of entities that may be, rising.
func masks() []int {
	var l []int
	for mask := pos; mask <= all; mask += 2 {
		l = append(l, mask)
	}
	return l
}

// oneOfEach is an entity of each mask, and a second one of some: names rise neither with the masks, nor with the points, nor in the order of the list.
func oneOfEach() []api.Bundle {
	var l []api.Bundle
	for i, mask := range masks() {
		l = append(l, standing(name(i*7%5, i*11%3, i*5%16), mask, i*13%9-4, i*5%7-3))
		if i%3 == 0 {
			l = append(l, standing(name(4-i*7%5, i*11%3, 15-i*5%16), mask, i*5%7-3, i*13%9-4))
		}
	}
	return l
}

// grid is an entity of a few masks at each point that lies at most n apart from a middle; names do not rise with the points.
func grid(x, y, n int) []api.Bundle {
	var l []api.Bundle
	for i := -n; i <= n; i++ {
		for j := -n; j <= n; j++ {
			k := len(l)
			l = append(l, standing(name(k*7%16, k*3%11, k*29%97), []int{pos, pos | life, pos | power}[k%3], x+i, y+j))
		}
	}
	return l
}

// corners is an entity at each point whose numbers are at the ends of the fixed ones, beside these, or at 0.
func corners() []api.Bundle {
	var l []api.Bundle
	ends := []int{-far, 1 - far, 0, far - 1, far}
	for i, x := range ends {
		for j, y := range ends {
			l = append(l, standing(name(j, 4-i, i*j), pos, x, y))
		}
	}
	return l
}

// edges is numbers at 0 and beside it, at and beyond the ends of the fixed ones, and at both ends of their kind.
func edges() []int {
	return []int{math.MinInt, math.MinInt + 1, -far - 1, -far, 1 - far, -1, 0, 1, far - 1, far, far + 1, math.MaxInt - 1, math.MaxInt}
}

// anyEntity is one of some names, of all masks, at a point that lies at most span apart from 0, 0.
func anyEntity(seed *sample.Chance, names, span int) api.Bundle {
	i := seed.Below(names)
	return standing(name(i%5, i/5%7, i/35), masks()[seed.Below(16)], seed.Below(2*span+1)-span, seed.Below(2*span+1)-span)
}

// many is some entities, of names that differ.
func many(seed *sample.Chance, n, span int) []api.Bundle {
	var l []api.Bundle
	there := map[api.ID]int{}
	for len(l) < n {
		b := anyEntity(seed, 4*n, span)
		if there[b.ID]++; there[b.ID] == 1 {
			l = append(l, b)
		}
	}
	return l
}

// shuffled is a list in another order.
func shuffled(seed *sample.Chance, l []api.Bundle) []api.Bundle {
	l = slices.Clone(l)
	for i := len(l) - 1; i > 0; i-- {
		j := seed.Below(i + 1)
		l[i], l[j] = l[j], l[i]
	}
	return l
}

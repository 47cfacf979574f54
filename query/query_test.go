package query_test

import (
	"iter"
	"math"
	"slices"
	"testing"

	"hedgerow/api"
	"hedgerow/arch"
	"hedgerow/query"
	"hedgerow/sample"
)

// a, b, c and d are names that rise; each differs in another part from the first one.
func a() api.ID { return name(0, 0, 0) }
func b() api.ID { return name(0, 0, 1) }
func c() api.ID { return name(0, 1, 0) }
func d() api.ID { return name(1, 0, 0) }

// 12.1

func TestMatchOfMasks(t *testing.T) {
	for _, q := range queries() {
		for mask := 0; mask <= all; mask++ {
			if got := query.Match(q, mask); got != asks(q, mask) {
				t.Errorf("Match(%+v, %d): %v", q, mask, got)
			}
		}
	}
}

// TestMatchOfAnyNumbers: whatever they are.
func TestMatchOfAnyNumbers(t *testing.T) {
	numbers := append(oddMasks(), 0, 1, 4, 5, 16, 30, 31)
	for _, with := range numbers {
		for _, without := range numbers {
			q := api.Query{All: with, None: without}
			for _, mask := range numbers {
				if got := query.Match(q, mask); got != asks(q, mask) {
					t.Errorf("Match(%+v, %d): %v", q, mask, got)
				}
			}
		}
	}
}

// TestMatchBitByBit: of each bit of a number.
func TestMatchBitByBit(t *testing.T) {
	for i := 0; i < 64; i++ {
		one := int(uint64(1) << i)
		for _, x := range []struct {
			q    api.Query
			mask int
			want bool
		}{
			{api.Query{All: one}, one, true},
			{api.Query{All: one}, -1, true},
			{api.Query{All: one}, ^one, false},
			{api.Query{All: one}, 0, false},
			{api.Query{All: ^one}, ^one, true},
			{api.Query{All: ^one}, one, false},
			{api.Query{None: one}, one, false},
			{api.Query{None: one}, -1, false},
			{api.Query{None: one}, ^one, true},
			{api.Query{None: one}, 0, true},
			{api.Query{None: ^one}, one, true},
			{api.Query{All: one, None: ^one}, one, true},
			{api.Query{All: one, None: one}, one, false},
			{api.Query{All: one, None: one}, 0, false},
			{api.Query{All: ^one, None: one}, -1, false},
		} {
			if got := query.Match(x.q, x.mask); got != x.want {
				t.Errorf("Match(%+v, %d): %v", x.q, x.mask, got)
			}
		}
	}
}

func TestMatchOfTheZeroQuery(t *testing.T) {
	for _, mask := range append(oddMasks(), 0, 1, 2, 30, 31) {
		if !query.Match(everything, mask) {
			t.Errorf("Match({}, %d): false", mask)
		}
	}
}

// TestMasks: from 0 to All, without Pos too, rising, and no others.
func TestMasks(t *testing.T) {
	for _, q := range append(queries(), oddQueries()...) {
		var want []int
		for mask := 0; mask <= all; mask++ {
			if asks(q, mask) {
				want = append(want, mask)
			}
		}
		if got := query.Masks(q); !slices.Equal(got, want) {
			t.Errorf("Masks(%+v): %v, want %v", q, got, want)
		}
	}
}

func TestMasksByName(t *testing.T) {
	var whole []int
	for mask := 0; mask <= all; mask++ {
		whole = append(whole, mask)
	}
	for _, x := range []struct {
		q    api.Query
		want []int
	}{
		{everything, whole},
		{api.Query{None: 32}, whole},
		{api.Query{None: -32}, whole},
		{api.Query{None: math.MinInt}, whole},
		{api.Query{All: 5, None: 26}, []int{5}},
		{api.Query{All: 5, None: 18}, []int{5, 13}},
		{api.Query{All: all}, []int{31}},
		{api.Query{None: all}, []int{0}},
		{api.Query{None: -1}, []int{0}},
		{api.Query{None: all &^ left}, []int{0, 16}},
		{api.Query{All: all &^ pos}, []int{30, 31}},
		{api.Query{All: 4, None: 4}, nil},
		{api.Query{All: 5, None: 1}, nil},
		{api.Query{All: 32}, nil},
		{api.Query{All: 33}, nil},
		{api.Query{All: -1}, nil},
		{api.Query{All: math.MaxInt}, nil},
		{api.Query{All: math.MinInt}, nil},
	} {
		if got := query.Masks(x.q); !slices.Equal(got, x.want) {
			t.Errorf("Masks(%+v): %v, want %v", x.q, got, x.want)
		}
	}
}

// 12.2

func TestWhoIsAskedFor(t *testing.T) {
	l := oneOfEach()
	s := storeOf(t, l...)
	for _, q := range append(queries(), oddQueries()...) {
		mustAnswer(t, s, l, q)
	}
}

// TestNamesRise: by Shard, then by Index, then by Gen, in one table and through several.
func TestNamesRise(t *testing.T) {
	names := []api.ID{name(15, 15, maxGen-1), d(), name(0, 15, maxGen-1), name(1, 0, maxGen-1), c(), name(2, 0, 0), name(0, 2, 3), name(0, 3, 2), b(), name(10, 9, 8), name(9, 10, 8), name(0, 0, maxGen-1), name(0, 10, 0), name(0, 9, 0), name(0, 0, 9), name(0, 0, 10), a()}
	for _, kinds := range [][]int{{pos}, {all}, {pos, all}, {pos | left, pos | vel, pos}} {
		var l []api.Bundle
		for i, id := range names {
			l = append(l, standing(id, kinds[i%len(kinds)], 3, 4))
		}
		s := storeOf(t, l...)
		rising := []api.ID{a(), b(), name(0, 0, 9), name(0, 0, 10), name(0, 0, maxGen-1), c(), name(0, 2, 3), name(0, 3, 2), name(0, 9, 0), name(0, 10, 0), name(0, 15, maxGen-1), d(), name(1, 0, maxGen-1), name(2, 0, 0), name(9, 10, 8), name(10, 9, 8), name(15, 15, maxGen-1)}
		mustNames(t, "IDs", query.IDs(s, everything), rising...)
		mustNames(t, "Within", query.Within(s, everything, api.Rect{X1: 9, Y1: 9}), rising...)
		mustNames(t, "Near", query.Near(s, everything, 0, 0, 4), rising...)
		mustAnswer(t, s, l, everything)
	}
}

// TestEachYieldsWholeEntities: all numbers of them.
func TestEachYieldsWholeEntities(t *testing.T) {
	x := api.Bundle{ID: c(), Mask: all, X: -far, Y: far, VX: -7, VY: 8, HP: 1 << 20, Power: 1 << 10, Left: 1 << 20}
	y := api.Bundle{ID: b(), Mask: pos | power}
	mustYield(t, query.Each(storeOf(t, x, y), everything), []api.Bundle{y, x})
	mustYield(t, query.Each(storeOf(t, x, y), api.Query{All: vel}), []api.Bundle{x})
}

func TestOfStoresWithoutEntities(t *testing.T) {
	emptied := storeOf(t, standing(a(), pos, 0, 0))
	emptied.Remove(a())
	for _, s := range []*arch.Store{nil, arch.New(), new(arch.Store), emptied} {
		for _, q := range append(oddQueries(), everything, api.Query{All: pos}, api.Query{None: life}) {
			mustAnswer(t, s, nil, q)
			mustBeWithin(t, s, nil, q, api.Rect{X0: -far, Y0: -far, X1: far, Y1: far})
			mustBeNear(t, s, nil, q, 0, 0, math.MaxInt)
			if query.Each(s, q) == nil {
				t.Fatalf("Each(%+v): nil", q)
			}
		}
	}
}

// TestEachStops: behind as many as are wanted, none is yielded any more.
func TestEachStops(t *testing.T) {
	l := oneOfEach()
	s := storeOf(t, l...)
	whole := wanted(l, everything, yes)
	for n := 1; n <= len(whole)+1; n++ {
		var got []api.Bundle
		query.Each(s, everything)(func(x api.Bundle) bool {
			got = append(got, x)
			return len(got) < n
		})
		if want := whole[:min(n, len(whole))]; !slices.Equal(got, want) {
			t.Errorf("the first %d: %+v, want %+v", n, got, want)
		}
	}
	mustAnswer(t, s, l, everything)
}

// TestEachLooksWhenTheFirstIsAskedFor: not when it is called.
func TestEachLooksWhenTheFirstIsAskedFor(t *testing.T) {
	s := arch.New()
	seq, without := query.Each(s, everything), query.Each(s, api.Query{None: life})
	next, stop := iter.Pull(query.Each(s, everything))
	defer stop()
	l := oneOfEach()
	for _, x := range l {
		s.Put(x)
	}
	mustYield(t, seq, wanted(l, everything, yes))
	mustYield(t, without, wanted(l, api.Query{None: life}, yes))
	if x, there := next(); x != wanted(l, everything, yes)[0] || !there {
		t.Errorf("the first one: %+v, %v", x, there)
	}
	for _, x := range l {
		s.Remove(x.ID)
	}
	mustYield(t, seq, nil) // gone over again, it is looked at again
	s.Put(l[0])
	mustYield(t, seq, l[:1])
	x := l[0]
	x.X++
	s.Write(x)
	mustYield(t, seq, []api.Bundle{x})
}

// changes is ways to change a store while it is gone over; at is the one that was yielded.
func changes() map[string]func(s *arch.Store, at api.Bundle) {
	return map[string]func(s *arch.Store, at api.Bundle){
		"all are removed": func(s *arch.Store, _ api.Bundle) {
			for _, id := range query.IDs(s, everything) {
				s.Remove(id)
			}
		},
		"it is removed": func(s *arch.Store, at api.Bundle) { s.Remove(at.ID) },
		"it is written with another mask": func(s *arch.Store, at api.Bundle) {
			s.Write(standing(at.ID, all-at.Mask+pos, 9, 9))
		},
		"all are written": func(s *arch.Store, at api.Bundle) {
			for _, id := range query.IDs(s, everything) {
				s.Write(standing(id, at.Mask, 9, 9))
			}
		},
		"others are put": func(s *arch.Store, at api.Bundle) {
			s.Put(standing(name(15, 15, at.ID.Gen), at.Mask, 9, 9))
			s.Put(standing(name(at.ID.Shard, 15, at.ID.Gen), pos, 9, 9))
		},
	}
}

// TestTheStoreMayBeChangedThen: while it is gone over.
func TestTheStoreMayBeChangedThen(t *testing.T) {
	l := oneOfEach()
	for what, change := range changes() {
		for _, q := range []api.Query{everything, {None: vel}, {All: pos | life}} {
			want := wanted(l, q, yes)
			for first := range want {
				s := storeOf(t, l...)
				var got []api.Bundle
				for x := range query.Each(s, q) {
					if got = append(got, x); len(got) > first {
						change(s, x)
					}
				}
				if !slices.Equal(got, want) {
					t.Errorf("%s, from the one at %d on: %+v, want %+v", what, first, got, want)
				}
			}
		}
	}
}

// TestEachGoneOverWhileItIsGoneOver: each time by what the store has then.
func TestEachGoneOverWhileItIsGoneOver(t *testing.T) {
	l := oneOfEach()
	s := storeOf(t, l...)
	seq := query.Each(s, everything)
	there := wanted(l, everything, yes)
	for x := range seq {
		s.Remove(x.ID)
		there = there[1:]
		mustYield(t, seq, there)
		mustAnswer(t, s, there, everything)
	}
	if s.Len() != 0 {
		t.Errorf("%d are left", s.Len())
	}
}

func TestEachOfNoFunction(t *testing.T) {
	l := oneOfEach()
	s := storeOf(t, l...)
	for _, x := range []*arch.Store{s, nil, arch.New()} {
		query.Each(x, everything)(nil)
	}
	mustAnswer(t, s, l, everything)
}

// TestWithinSmallRectangles: all of them, about 0 and about other points.
func TestWithinSmallRectangles(t *testing.T) {
	for _, middle := range [][2]int{{0, 0}, {300, -70}, {far - 2, 2 - far}} {
		l := grid(middle[0], middle[1], 2)
		s := storeOf(t, l...)
		for x0 := -3; x0 <= 4; x0++ {
			for y0 := -3; y0 <= 4; y0++ {
				for x1 := -3; x1 <= 4; x1++ {
					for y1 := -3; y1 <= 4; y1++ {
						r := api.Rect{X0: middle[0] + x0, Y0: middle[1] + y0, X1: middle[0] + x1, Y1: middle[1] + y1}
						mustBeWithin(t, s, l, everything, r)
					}
				}
			}
		}
	}
}

// TestWithinAtTheEnds: at and beyond the ends of the fixed numbers; there is no rectangle that has Max.
func TestWithinAtTheEnds(t *testing.T) {
	l := corners()
	s := storeOf(t, l...)
	for _, x0 := range edges() {
		for _, y0 := range edges() {
			for _, x1 := range edges() {
				for _, y1 := range edges() {
					mustBeWithin(t, s, l, everything, api.Rect{X0: x0, Y0: y0, X1: x1, Y1: y1})
				}
			}
		}
	}
}

func TestWithinOfQueries(t *testing.T) {
	l := oneOfEach()
	s := storeOf(t, l...)
	for _, q := range append(queries(), oddQueries()...) {
		for _, r := range []api.Rect{{}, {X0: -1, Y0: -2, X1: 3, Y1: 3}, {X0: -4, Y0: -4, X1: 0, Y1: 5}, {X0: 2, Y0: 2, X1: 1, Y1: 1}, {X0: math.MinInt, Y0: math.MinInt, X1: math.MaxInt, Y1: math.MaxInt}} {
			mustBeWithin(t, s, l, q, r)
		}
	}
}

func TestWithinByName(t *testing.T) {
	s := storeOf(t, standing(d(), pos, 0, 0), standing(c(), pos|life, 9, 9), standing(b(), pos, 10, 9), standing(a(), pos, 9, 10), standing(name(2, 0, 0), pos, -1, 0))
	r := api.Rect{X1: 10, Y1: 10}
	mustNames(t, "Within {0 0 10 10}", query.Within(s, everything, r), c(), d())
	mustNames(t, "Within {0 0 10 10}, with Life", query.Within(s, api.Query{All: life}, r), c())
	mustNames(t, "Within {0 0 10 10}, without Life", query.Within(s, api.Query{None: life}, r), d())
	mustNames(t, "Within a rectangle that is none", query.Within(s, everything, api.Rect{X0: 10, Y0: 10}))
}

// TestNearSmall: all points about a grid, at all distances.
func TestNearSmall(t *testing.T) {
	for _, middle := range [][2]int{{0, 0}, {300, -70}, {far - 2, 2 - far}} {
		l := grid(middle[0], middle[1], 2)
		s := storeOf(t, l...)
		for x := -4; x <= 4; x++ {
			for y := -4; y <= 4; y++ {
				for d := -2; d <= 7; d++ {
					mustBeNear(t, s, l, everything, middle[0]+x, middle[1]+y, d)
				}
			}
		}
	}
}

// TestNearAtTheEnds: at and beyond the ends of the fixed numbers; what is told to be the farthest counts as it is.
func TestNearAtTheEnds(t *testing.T) {
	l := corners()
	s := storeOf(t, l...)
	for _, x := range edges() {
		for _, y := range edges() {
			for _, d := range append(edges(), 2*far-2, 2*far-1, 2*far, 2*far+1) {
				mustBeNear(t, s, l, everything, x, y, d)
			}
		}
	}
}

func TestNearOfQueries(t *testing.T) {
	l := oneOfEach()
	s := storeOf(t, l...)
	for _, q := range append(queries(), oddQueries()...) {
		for _, d := range []int{math.MinInt, -1, 0, 1, 3, 8, math.MaxInt} {
			mustBeNear(t, s, l, q, 1, -2, d)
		}
	}
}

// TestNearByName: those that lie less far apart first, whatever their names; of those that lie equally far on whichever side by rising names.
func TestNearByName(t *testing.T) {
	e, f := name(1, 0, 1), name(2, 0, 0)
	s := storeOf(t, standing(f, pos, 10, 10), standing(d(), pos, 10, 13), standing(a(), pos|life, 14, 9), standing(c(), pos, 7, 7), standing(e, all, 7, 12), standing(b(), pos, 13, 10))
	mustNames(t, "Near 10 10 4", query.Near(s, everything, 10, 10, 4), f, b(), c(), d(), e, a())
	mustNames(t, "Near 10 10 3", query.Near(s, everything, 10, 10, 3), f, b(), c(), d(), e)
	mustNames(t, "Near 10 10 2", query.Near(s, everything, 10, 10, 2), f)
	mustNames(t, "Near 10 10 0", query.Near(s, everything, 10, 10, 0), f)
	mustNames(t, "Near 10 10 -1", query.Near(s, everything, 10, 10, -1))
	mustNames(t, "Near 11 10 0", query.Near(s, everything, 11, 10, 0))
	mustNames(t, "Near 10 10 4, with Life", query.Near(s, api.Query{All: life}, 10, 10, 4), e, a())
	mustNames(t, "Near 10 10 4, without Life", query.Near(s, api.Query{None: life}, 10, 10, 4), f, b(), c(), d())
}

// TestNearManyThatLieEquallyFar: in one table, and through several.
func TestNearManyThatLieEquallyFar(t *testing.T) {
	seed := sample.Chance(11)
	for _, kinds := range [][]int{{pos}, {pos, all, pos | vel}} {
		var l []api.Bundle
		for i, x := range many(&seed, 300, 1) {
			side := [][2]int{{5, 0}, {-5, 3}, {2, 5}, {-5, -5}, {3, 0}}[seed.Below(5)]
			l = append(l, standing(x.ID, kinds[i%len(kinds)], side[0], side[1]))
		}
		s := storeOf(t, l...)
		for _, d := range []int{2, 3, 4, 5, 6} {
			mustBeNear(t, s, l, everything, 0, 0, d)
		}
	}
}

// 12.3

// TestEachHasAComponentOrHasItNot: and none has it and has it not.
func TestEachHasAComponentOrHasItNot(t *testing.T) {
	seed := sample.Chance(3)
	s := storeOf(t, many(&seed, 60, 5)...)
	for _, q := range queries() {
		for _, component := range []int{pos, vel, life, power, left} {
			with, without := q, q
			with.All |= component
			without.None |= component
			if n := query.Count(s, with) + query.Count(s, without); n != query.Count(s, q) {
				t.Errorf("%+v with and without %d: %d, want %d", q, component, n, query.Count(s, q))
			}
			both := append(query.IDs(s, with), query.IDs(s, without)...)
			slices.SortFunc(both, ahead)
			if l := query.IDs(s, q); !slices.Equal(both, l) {
				t.Errorf("%+v with and without %d: %v, want %v", q, component, both, l)
			}
			mustBeAmong(t, s, with, q)
			mustBeAmong(t, s, without, q)
		}
	}
}

// mustBeAmong says so if somebody, or a mask, for which one query asks is none for which the other one does.
func mustBeAmong(t *testing.T, s *arch.Store, narrow, wide api.Query) {
	t.Helper()
	r := api.Rect{X0: -2, Y0: -3, X1: 4, Y1: 4}
	for _, x := range [][2][]api.ID{
		{query.IDs(s, narrow), query.IDs(s, wide)},
		{query.Within(s, narrow, r), query.Within(s, wide, r)},
		{query.Near(s, narrow, 1, 0, 3), query.Near(s, wide, 1, 0, 3)},
	} {
		left := x[1] // both are in one order, so that each is looked for behind the last one
		for _, id := range x[0] {
			i := slices.Index(left, id)
			if i < 0 {
				t.Fatalf("%v is told of %+v, in its place not of %+v", id, narrow, wide)
			}
			left = left[i+1:]
		}
	}
	for _, mask := range query.Masks(narrow) {
		if !slices.Contains(query.Masks(wide), mask) {
			t.Errorf("the mask %d is told of %+v, not of %+v", mask, narrow, wide)
		}
	}
}

// TestTheOrderOfPutsIsNotTold: nor is what moved rows between.
func TestTheOrderOfPutsIsNotTold(t *testing.T) {
	seed := sample.Chance(5)
	l := many(&seed, 50, 3)
	for range 30 {
		s := storeOf(t, shuffled(&seed, l)...)
		for range 20 { // it goes, and comes again, as what it was
			x := l[seed.Below(len(l))]
			s.Remove(x.ID)
			s.Put(x)
			s.Write(standing(x.ID, all, far, far))
			s.Write(x)
		}
		for _, q := range []api.Query{everything, {All: life}, {None: vel | left}} {
			mustAnswer(t, s, l, q)
			mustBeWithin(t, s, l, q, api.Rect{X0: -1, Y0: -2, X1: 3, Y1: 3})
			mustBeNear(t, s, l, q, 0, 1, 3)
		}
	}
}

// Stores that change

// TestLongScripts: what a store has is asked behind each change.
func TestLongScripts(t *testing.T) {
	for _, names := range []int{4, 40, 200} {
		seed := sample.Chance(names)
		s, there := arch.New(), map[api.ID]api.Bundle{}
		for range 1500 {
			x := anyEntity(&seed, names, 6)
			switch seed.Below(4) {
			case 0:
				s.Remove(x.ID)
				delete(there, x.ID)
			default:
				if s.Put(x) == api.ErrThere {
					s.Write(x)
				}
				there[x.ID] = x
			}
			var l []api.Bundle
			for _, x := range there {
				l = append(l, x)
			}
			q := api.Query{All: masks()[seed.Below(16)] & masks()[seed.Below(16)], None: 2 * seed.Below(16) & seed.Below(32)}
			mustAnswer(t, s, l, q)
			mustBeWithin(t, s, l, q, api.Rect{X0: seed.Below(9) - 7, Y0: seed.Below(9) - 7, X1: seed.Below(9), Y1: seed.Below(9)})
			mustBeNear(t, s, l, q, seed.Below(15)-7, seed.Below(15)-7, seed.Below(10)-1)
		}
	}
}

func TestManyEntities(t *testing.T) {
	seed := sample.Chance(9)
	l := many(&seed, 1500, 300)
	s := storeOf(t, l...)
	for _, q := range []api.Query{everything, {All: life, None: power}, {None: all &^ pos}} {
		mustAnswer(t, s, l, q)
		mustBeWithin(t, s, l, q, api.Rect{X0: -100, Y0: -200, X1: 150, Y1: 120})
		mustBeNear(t, s, l, q, 20, -30, 200)
		mustBeNear(t, s, l, q, 400, 0, 600)
	}
}

// Rules

// TestWhoAsksChangesNothing: rows stay where they are, too.
func TestWhoAsksChangesNothing(t *testing.T) {
	l := oneOfEach()
	s := storeOf(t, l...)
	tables, whole := s.Tables(), slices.Collect(s.All())
	for _, q := range append(queries(), oddQueries()...) {
		query.Match(q, all)
		query.Masks(q)
		query.IDs(s, q)
		query.Count(s, q)
		query.Within(s, q, api.Rect{X0: -9, Y0: -9, X1: 9, Y1: 9})
		query.Near(s, q, 0, 0, 9)
		for range query.Each(s, q) {
		}
	}
	for i, x := range s.Tables() {
		if x.Mask != tables[i].Mask || !slices.Equal(x.IDs, tables[i].IDs) {
			t.Errorf("the table at %d: %v, was %v", i, x, tables[i])
		}
	}
	if now := slices.Collect(s.All()); !slices.Equal(now, whole) || s.Len() != len(l) {
		t.Errorf("the store has %+v, had %+v", now, whole)
	}
}

// TestWhatIsAnsweredIsTheAskersOwn: R4.
func TestWhatIsAnsweredIsTheAskersOwn(t *testing.T) {
	l := oneOfEach()
	s := storeOf(t, l...)
	r := api.Rect{X0: -9, Y0: -9, X1: 9, Y1: 9}
	for _, ask := range []func() []api.ID{
		func() []api.ID { return query.IDs(s, everything) },
		func() []api.ID { return query.Within(s, everything, r) },
		func() []api.ID { return query.Near(s, everything, 0, 0, 9) },
	} {
		one, other := ask(), ask()
		was := slices.Clone(other)
		for i := range one {
			one[i] = name(7, 7, 7)
		}
		_ = append(one, name(8, 8, 8))
		if !slices.Equal(other, was) || !slices.Equal(ask(), was) {
			t.Errorf("behind a change of another answer: %v, %v, want %v", other, ask(), was)
		}
	}
	one, other := query.Masks(everything), query.Masks(everything)
	for i := range one {
		one[i] = 99
	}
	if again := query.Masks(everything); len(other) != 32 || other[5] != 5 || !slices.Equal(other, again) {
		t.Errorf("Masks behind a change of another answer: %v, %v", other, again)
	}
	for x := range query.Each(s, everything) {
		x.X, x.Mask, x.ID = 99, 3, name(7, 7, 7)
	}
	mustAnswer(t, s, l, everything)
}

// TestWhatWasAnsweredStays: whatever comes of the store.
func TestWhatWasAnsweredStays(t *testing.T) {
	l := oneOfEach()
	s := storeOf(t, l...)
	names, near := query.IDs(s, everything), query.Near(s, everything, 0, 0, 9)
	was, wasNear := slices.Clone(names), slices.Clone(near)
	for i, x := range l {
		s.Write(standing(x.ID, all, i, i))
		s.Remove(l[len(l)-1-i].ID)
	}
	if !slices.Equal(names, was) || !slices.Equal(near, wasNear) {
		t.Errorf("became %v, %v; was %v, %v", names, near, was, wasNear)
	}
}

// TestTheSameAgain: R5.
func TestTheSameAgain(t *testing.T) {
	l := oneOfEach()
	s, copied := storeOf(t, l...), storeOf(t, l...).Copy()
	for range 20 {
		for _, x := range []*arch.Store{s, copied} {
			mustAnswer(t, x, l, api.Query{None: life})
			mustBeWithin(t, x, l, everything, api.Rect{X0: -2, Y0: -2, X1: 3, Y1: 3})
			mustBeNear(t, x, l, everything, 0, 0, 4)
		}
	}
}

// TestExample: the chapter's.
func TestExample(t *testing.T) {
	if got := query.Masks(api.Query{All: 5, None: 26}); !slices.Equal(got, []int{5}) {
		t.Errorf("Masks({All 5, None 26}): %v", got)
	}
	s := storeOf(t, api.Bundle{ID: a(), Mask: 5, HP: 1}, api.Bundle{ID: b(), Mask: 1, X: 3})
	mustNames(t, "IDs({All 1})", query.IDs(s, api.Query{All: 1}), a(), b())
	mustNames(t, "Near({All 1}, 2, 0, 2)", query.Near(s, api.Query{All: 1}, 2, 0, 2), b(), a())
	mustNames(t, "Within({}, {1 0 9 9})", query.Within(s, everything, api.Rect{X0: 1, X1: 9, Y1: 9}), b())
}

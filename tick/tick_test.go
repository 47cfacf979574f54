package tick_test

import (
	"math"
	"slices"
	"testing"

	"hedgerow/api"
	"hedgerow/sample"
	"hedgerow/tick"
	"hedgerow/zones"
)

// a, b, c and d are names, rising.
func a() api.ID { return name(0, 0, 0) }
func b() api.ID { return name(0, 0, 1) }
func c() api.ID { return name(0, 1, 0) }
func d() api.ID { return name(1, 0, 0) }

// 15.1

func TestRunOfNobody(t *testing.T) {
	for _, w := range worlds() {
		for zone := -1; zone < count(w); zone++ {
			mustRun(t, w, zone, nil, nil, result{})
			mustRun(t, w, zone, entities(), entities(), result{}, end(a()), giveLife(b(), 3), take(c(), life))
			mustRun(t, w, zone, nil, entities(of(a(), all, 1), weak(b(), 8, 8, 1)), result{}, end(a()))
		}
	}
}

// TestRunOfZonesThatThereAreNot: -1 alone stands for the world.
func TestRunOfZonesThatThereAreNot(t *testing.T) {
	for _, w := range worlds() {
		for _, zone := range []int{count(w), count(w) + 1, 16, 17, 256, 1 << 32, math.MaxInt, -2, -3, -256, -1 << 32, math.MinInt} {
			mustRun(t, w, zone, entities(weak(a(), 0, 0, 1), strong(b(), 0, 0, 1)), entities(of(c(), all, 1)), result{}, begin(of(d(), all, 1)), end(b()))
		}
	}
}

func TestRunOfANilMap(t *testing.T) {
	for _, zone := range append(oddNumbers(), 0, 1) {
		r := tick.Run(nil, zone, entities(weak(a(), 0, 0, 1), strong(b(), 0, 0, 1)), entities(of(c(), all, 1)), begin(of(d(), all, 1)), end(b()))
		if !same(r, result{}) {
			t.Errorf("zone %d of a nil map: %+v", zone, r)
		}
	}
}

// TestRunOfAMapThatNewDidNotMake: it ends.
func TestRunOfAMapThatNewDidNotMake(t *testing.T) {
	for _, n := range allNumbers() {
		for _, zone := range []int{-1, 0, 1, n} {
			m := mapOf(api.Config{Cols: n, Rows: n, Side: n, Radius: n, Speed: n})
			tick.Run(m, zone, entities(of(a(), all, 1), of(b(), all, 2)), entities(of(c(), all, 3)), begin(of(d(), all, 4)), end(a()))
			tick.Run(&zones.Map{Config: api.Config{Cols: 1, Rows: 1, Side: n}}, zone, entities(of(a(), all, 1)), nil, begin(of(d(), all, 4)))
		}
	}
}

// TestWhoIsLeftAlone: nothing comes to who only stands there.
func TestWhoIsLeftAlone(t *testing.T) {
	one := api.Bundle{ID: b(), Mask: all - vel - left, X: 3, Y: 4, HP: 5, Power: 6}
	for _, w := range worlds() {
		for _, zone := range []int{-1, 0} {
			mustRun(t, w, zone, entities(one), nil, result{Own: entities(one)})
		}
	}
}

// TestOwnAndNearHurt: and only own ones are hurt, and are left.
func TestOwnAndNearHurt(t *testing.T) {
	one, foe, other := weak(b(), 10, 10, 9), strong(a(), 0, 0, 2), strong(d(), 30, 30, 3)
	mustRun(t, small(), 0, entities(one, foe, other), nil, result{Own: entities(foe, weak(b(), 10, 10, 4), other)})
	mustRun(t, small(), 0, entities(one, foe), entities(other), result{Own: entities(foe, weak(b(), 10, 10, 4))})
	mustRun(t, small(), 0, entities(one), entities(other, foe), result{Own: entities(weak(b(), 10, 10, 4))})
	mustRun(t, small(), 0, entities(foe), entities(one, other), result{Own: entities(foe)})
	mustRun(t, small(), -1, entities(foe, one), entities(other), result{Own: entities(foe, weak(b(), 10, 10, 4))})
}

// TestHurtByRadius: the world's.
func TestHurtByRadius(t *testing.T) {
	w := small()
	for w.Radius = 0; w.Radius <= 30; w.Radius++ {
		for x := 60; x <= 140; x++ {
			foe, want := strong(b(), x, 95, 3), weak(a(), 100, 100, 9)
			if max(x-100, 100-x, 5) <= w.Radius {
				want.HP = 6
			}
			mustRun(t, w, 0, entities(weak(a(), 100, 100, 9)), entities(foe), result{Own: entities(want)})
			mustRun(t, w, -1, entities(weak(a(), 100, 100, 9), foe), nil, result{Own: entities(want, foe)})
		}
	}
}

// TestHurtToDeath: HP must be above what it takes.
func TestHurtToDeath(t *testing.T) {
	for hp := 1; hp <= 20; hp++ {
		for _, zone := range []int{-1, 0} {
			want := result{Dead: dead(a())}
			if hp > 9 {
				want = result{Own: entities(weak(a(), 0, 0, hp-9))}
			}
			mustRun(t, small(), zone, entities(weak(a(), 0, 0, hp)), entities(strong(b(), 0, 0, 4), strong(c(), 0, 0, 5)), want)
		}
	}
}

// TestAllAreHurtAsTheyStandAheadOfTheTick: who dies hurts the others all the same.
func TestAllAreHurtAsTheyStandAheadOfTheTick(t *testing.T) {
	both := func(id api.ID, hp, n int) api.Bundle {
		return api.Bundle{ID: id, Mask: pos | life | power, HP: hp, Power: n}
	}
	mustLeave(t, entities(both(a(), 3, 5), both(b(), 5, 3)), result{Dead: dead(a(), b())})
	mustLeave(t, entities(both(a(), 3, 5), both(b(), 6, 3)), result{Own: entities(both(b(), 1, 3)), Dead: dead(a())})
	mustLeave(t, entities(both(c(), 20, 5), both(b(), 1, 3), both(a(), 1, 4)), result{Own: entities(both(c(), 13, 5)), Dead: dead(a(), b())})
}

// TestOneMayTakeWhatAnotherOfItsNameTook: the first Hit of a name is for all of it that have Life.
func TestOneMayTakeWhatAnotherOfItsNameTook(t *testing.T) {
	here, there, stone := weak(a(), 0, 0, 9), weak(a(), 100, 0, 8), standing(a(), 0, 0)
	mustLeave(t, entities(here, there, strong(b(), 0, 0, 3)), result{Own: entities(weak(a(), 0, 0, 6), weak(a(), 100, 0, 5), strong(b(), 0, 0, 3))})
	mustLeave(t, entities(strong(b(), 100, 0, 3), stone, here, there), result{Own: entities(stone, weak(a(), 0, 0, 6), weak(a(), 100, 0, 5), strong(b(), 100, 0, 3))})
	foes := entities(strong(b(), 100, 0, 3), strong(c(), 0, 0, 4))
	mustLeave(t, append(entities(here, there), foes...), result{Own: append(entities(weak(a(), 0, 0, 5), weak(a(), 100, 0, 4)), foes...)})
	mustLeave(t, append(entities(there, here), foes...), result{Own: append(entities(weak(a(), 100, 0, 5), weak(a(), 0, 0, 6)), foes...)})
	mustLeave(t, append(entities(weak(a(), 50, 0, 3), there, here), foes...), result{Own: append(entities(weak(a(), 100, 0, 5), weak(a(), 0, 0, 6)), foes...), Dead: dead(a())})
}

// TestPowersAreAddedAsOwnWasHandedIn: not by names; each sum is cut, so that the order tells.
func TestPowersAreAddedAsOwnWasHandedIn(t *testing.T) {
	const far = 1 << 30
	foes := entities(strong(d(), 0, 0, far), strong(c(), 0, 0, 1), strong(b(), 0, 0, -1))
	mustLeave(t, append(slices.Clone(foes), weak(a(), 0, 0, far)), result{Own: entities(weak(a(), 0, 0, 1), foes[2], foes[1], foes[0])})
	mustLeave(t, append(rising(foes), weak(a(), 0, 0, far)), result{Own: rising(foes), Dead: dead(a())})
}

// TestHurtAheadOfCommands: none saves who is dead, nor ends what hurts, nor brings in what does.
func TestHurtAheadOfCommands(t *testing.T) {
	foe := strong(b(), 0, 0, 3)
	mustLeave(t, entities(weak(a(), 0, 0, 3), foe), result{Own: entities(foe), Dead: dead(a())}, giveLife(a(), 9))
	mustLeave(t, entities(weak(a(), 0, 0, 3), foe), result{Own: entities(foe), Dead: dead(a())}, take(a(), life))
	mustLeave(t, entities(weak(a(), 0, 0, 3), foe), result{Dead: dead(a(), b())}, end(b()))
	mustLeave(t, entities(weak(a(), 0, 0, 3), foe), result{Own: entities(standing(b(), 0, 0)), Dead: dead(a())}, take(b(), power))
	mustLeave(t, entities(weak(a(), 0, 0, 9), foe), result{Own: entities(weak(a(), 0, 0, 2), foe)}, giveLife(a(), 2))
	mustLeave(t, entities(weak(a(), 0, 0, 2)), result{Own: entities(weak(a(), 0, 0, 2), foe)}, begin(foe))
	mustLeave(t, entities(weak(a(), 0, 0, 2), standing(b(), 0, 0)), result{Own: entities(weak(a(), 0, 0, 2), foe)}, give(b(), api.Bundle{Mask: power, Power: 3}))
	mustLeave(t, entities(foe), result{Own: entities(weak(a(), 0, 0, 2), foe)}, begin(weak(a(), 0, 0, 2)))
}

// TestHurtAheadOfMoving: from where one stands, not to where one goes.
func TestHurtAheadOfMoving(t *testing.T) {
	foe := strong(b(), 50, 0, 3)
	one := func(x, vx, hp int) api.Bundle {
		return api.Bundle{ID: a(), Mask: pos | vel | life, X: x, VX: vx, HP: hp}
	}
	mustLeave(t, entities(one(29, 5, 9), foe), result{Own: entities(one(34, 5, 9), foe)})
	mustLeave(t, entities(one(30, -5, 9), foe), result{Own: entities(one(25, -5, 6), foe)})
}

// TestSpawnInItsZone: at all ends of all zones; for -1 anywhere in the world.
func TestSpawnInItsZone(t *testing.T) {
	for _, w := range append(worlds(), small()) {
		ends := []int{math.MinInt, -1 << 30, -w.Side, -1, w.Cols * w.Side, w.Rows * w.Side, 1 << 30, math.MaxInt}
		for k := range max(w.Cols, w.Rows) {
			ends = append(ends, k*w.Side-1, k*w.Side, k*w.Side+1, (k+1)*w.Side-1, (k+1)*w.Side)
		}
		for _, x := range ends {
			for _, y := range ends {
				one := standing(a(), x, y)
				at := zoneOf(w, one)
				for zone := -1; zone < count(w); zone++ {
					var want result
					if at >= 0 && (zone == at || zone == -1) {
						want.Own = entities(one)
					}
					mustRun(t, w, zone, nil, nil, want, begin(one))
				}
			}
		}
	}
}

// TestSpawnStandsByItsName: in whatever order they begin.
func TestSpawnStandsByItsName(t *testing.T) {
	row := entities(standing(a(), 1, 1), standing(b(), 2, 1), standing(c(), 3, 1), standing(d(), 4, 1), standing(name(15, 0, 0), 5, 1))
	for order := range 120 {
		l := slices.Clone(row)
		for at, rest := 0, order; at < len(l); at++ { // each of the orders once
			with := at + rest%(len(l)-at)
			rest /= len(l) - at
			l[at], l[with] = l[with], l[at]
		}
		for there := range len(l) + 1 {
			var cmds []api.Cmd
			for _, b := range l[there:] {
				cmds = append(cmds, begin(b))
			}
			mustLeave(t, l[:there], result{Own: row}, cmds...)
		}
	}
}

// TestSpawnOfANameThatIsThere: who is there stays as it is.
func TestSpawnOfANameThatIsThere(t *testing.T) {
	l := entities(standing(a(), 1, 1), weak(b(), 2, 2, 3), weak(d(), 3, 3, 4))
	for _, one := range l {
		mustLeave(t, l, result{Own: l}, begin(api.Bundle{ID: one.ID, Mask: all, X: 9, Y: 9, HP: 9, Power: 9, Left: 1}))
	}
	mustLeave(t, l, result{Own: slices.Insert(slices.Clone(l), 2, standing(c(), 5, 5))}, begin(standing(c(), 5, 5)), begin(weak(c(), 6, 6, 6)))
}

// TestSpawnOfANameThatIsNoMore: another one of it may begin then; the one that is no more is told all the same.
func TestSpawnOfANameThatIsNoMore(t *testing.T) {
	foe := strong(b(), 0, 0, 3)
	mustLeave(t, entities(weak(a(), 0, 0, 3), foe), result{Own: entities(standing(a(), 7, 7), foe), Dead: dead(a())}, begin(standing(a(), 7, 7)))
	mustLeave(t, entities(standing(a(), 1, 1)), result{Own: entities(standing(a(), 7, 7)), Dead: dead(a())}, end(a()), begin(standing(a(), 7, 7)))
	mustLeave(t, nil, result{Own: entities(standing(a(), 7, 7)), Dead: dead(a())}, begin(standing(a(), 1, 1)), end(a()), begin(standing(a(), 7, 7)))
	mustLeave(t, nil, result{Dead: dead(a())}, begin(standing(a(), 1, 1)), end(a()), begin(standing(a(), 7, 7)), end(a()))
}

// TestSpawnOfTheNameOfOneNear: which is none of the zone's.
func TestSpawnOfTheNameOfOneNear(t *testing.T) {
	for _, zone := range []int{-1, 0} {
		mustRun(t, small(), zone, nil, entities(standing(a(), 1, 1)), result{Own: entities(standing(a(), 7, 7))}, begin(standing(a(), 7, 7)))
	}
}

// TestSpawnOfTheNameOfOneElsewhere: one of own has its name, wherever it stands.
func TestSpawnOfTheNameOfOneElsewhere(t *testing.T) {
	mustLeave(t, entities(standing(a(), 256, 7)), result{Gone: entities(standing(a(), 256, 7))}, begin(standing(a(), 7, 7)))
}

// TestSpawnTakesBAlone: a command's ID, and its Mask, are nothing to it, nor to whom they name.
func TestSpawnTakesBAlone(t *testing.T) {
	l := entities(standing(a(), 1, 1), weak(b(), 2, 2, 3))
	for _, id := range append(names(), b(), c()) {
		for _, mask := range allNumbers() {
			cmd := api.Cmd{Kind: spawn, ID: id, B: weak(c(), 3, 3, 7), Mask: mask}
			mustLeave(t, l, result{Own: append(slices.Clone(l), cmd.B)}, cmd)
			cmd.B = weak(c(), 256, 3, 7)
			mustLeave(t, l, result{Own: l}, cmd)
		}
	}
}

// TestSpawnOfWhatMayNotBe: it begins if its point lies there.
func TestSpawnOfWhatMayNotBe(t *testing.T) {
	for _, mask := range allNumbers() {
		for _, id := range append(names(), sample.BadNames()...) {
			one := api.Bundle{ID: id, Mask: mask &^ vel &^ left, X: 5, Y: 6, VX: 7, VY: mask, HP: mask, Power: -mask, Left: mask}
			mustLeave(t, nil, result{Own: entities(one)}, begin(one))
			mustRun(t, small(), -1, nil, nil, result{Own: entities(one)}, begin(one))
			mustRun(t, small(), 1, nil, nil, result{}, begin(one))
		}
	}
}

// TestCommandsInOrder: each finds what those ahead of it left.
func TestCommandsInOrder(t *testing.T) {
	one := weak(a(), 1, 1, 5)
	mustLeave(t, entities(one), result{Own: entities(weak(a(), 1, 1, 8))}, giveLife(a(), 7), giveLife(a(), 8))
	mustLeave(t, entities(one), result{Own: entities(standing(a(), 1, 1))}, giveLife(a(), 7), take(a(), life))
	mustLeave(t, entities(one), result{Own: entities(weak(a(), 1, 1, 7))}, take(a(), life), giveLife(a(), 7))
	mustLeave(t, nil, result{Own: entities(weak(a(), 1, 1, 7))}, begin(one), giveLife(a(), 7))
	mustLeave(t, nil, result{Own: entities(one)}, giveLife(a(), 7), begin(one))
	mustLeave(t, nil, result{Own: entities(one)}, end(a()), begin(one))
	mustLeave(t, nil, result{Dead: dead(a())}, begin(one), end(a()))
	mustLeave(t, entities(one), result{Dead: dead(a())}, end(a()), giveLife(a(), 7), end(a()))
}

// TestAllOfANameObey: and nobody else.
func TestAllOfANameObey(t *testing.T) {
	l := entities(weak(b(), 1, 1, 5), weak(a(), 2, 2, 6), weak(b(), 3, 3, 7), weak(c(), 4, 4, 8))
	mustLeave(t, l, result{Own: entities(l[1], weak(b(), 1, 1, 9), weak(b(), 3, 3, 9), l[3])}, giveLife(b(), 9))
	mustLeave(t, l, result{Own: entities(l[1], standing(b(), 1, 1), standing(b(), 3, 3), l[3])}, take(b(), life))
	mustLeave(t, l, result{Own: entities(l[1], l[3]), Dead: dead(b())}, end(b()))
	mustRun(t, small(), 0, l, entities(weak(d(), 0, 0, 1)), result{Own: rising(l)}, end(d()), giveLife(d(), 1), take(d(), life), end(name(0, 0, 2)))
}

func TestCommandsOfNoKind(t *testing.T) {
	l := entities(weak(a(), 1, 1, 5), weak(b(), 2, 2, 6))
	for _, kind := range append(oddNumbers(), 0, 5, 6, 7, 8, 9, 12) {
		mustLeave(t, l, result{Own: l}, api.Cmd{Kind: kind, ID: a(), B: of(c(), all, 1), Mask: life})
	}
}

// TestEachMovesAndGrowsOlder: also those that just began, and those that just got what lets them.
func TestEachMovesAndGrowsOlder(t *testing.T) {
	mustLeave(t, entities(moving(a(), 100, 100, 5, -30)), result{Own: entities(moving(a(), 105, 90, 5, -30))})
	mustLeave(t, nil, result{Own: entities(moving(a(), 105, 90, 5, -30))}, begin(moving(a(), 100, 100, 5, -30)))
	mustLeave(t, entities(standing(a(), 100, 100)), result{Own: entities(moving(a(), 105, 90, 5, -30))}, giveVel(a(), 5, -30))
	mustLeave(t, entities(moving(a(), 100, 100, 5, -30)), result{Own: entities(standing(a(), 100, 100))}, take(a(), vel))
	for n := 1; n <= 3; n++ {
		want := result{Dead: dead(a())}
		if n > 1 {
			want = result{Own: entities(ageing(a(), n-1))}
		}
		mustLeave(t, entities(ageing(a(), n)), want)
		mustLeave(t, nil, want, begin(ageing(a(), n)))
		mustLeave(t, entities(standing(a(), 0, 0)), want, giveLeft(a(), n))
	}
	mustLeave(t, entities(ageing(a(), 1)), result{Own: entities(standing(a(), 0, 0))}, take(a(), left))
	mustLeave(t, entities(api.Bundle{ID: a(), Mask: pos | vel | left, X: 255, VX: 5, Left: 1}), result{Dead: dead(a())}) // who goes dies too
}

// TestWhoGoes: over each border, and each corner.
func TestWhoGoes(t *testing.T) {
	w := api.Config{Cols: 3, Rows: 3, Side: 256, Speed: 10, Ids: 1, Queue: 1}
	for _, x := range []int{256, 260, 300, 506, 511} {
		for _, y := range []int{256, 260, 300, 506, 511} {
			for _, vx := range []int{-10, -1, 0, 1, 10} {
				for _, vy := range []int{-10, -1, 0, 1, 10} {
					one, behind := moving(a(), x, y, vx, vy), moving(a(), x+vx, y+vy, vx, vy)
					want := result{Gone: entities(behind)}
					if min(behind.X, behind.Y) >= 256 && max(behind.X, behind.Y) < 512 {
						want = result{Own: entities(behind)}
					}
					mustRun(t, w, 4, entities(one), nil, want)
					mustRun(t, w, -1, entities(one), nil, result{Own: entities(behind)})
				}
			}
		}
	}
}

// TestBothStandByNames: those that stay, and those that go.
func TestBothStandByNames(t *testing.T) {
	stay := entities(moving(d(), 0, 0, 1, 0), moving(b(), 1, 0, 1, 0), moving(b(), 2, 0, 1, 0))
	leave := entities(moving(name(2, 0, 0), 255, 0, 1, 0), moving(c(), 255, 1, 1, 0), moving(a(), 255, 2, 1, 0), moving(c(), 255, 3, 1, 0))
	behind := func(l []api.Bundle) []api.Bundle {
		out := rising(l)
		for i := range out {
			out[i].X++
		}
		return out
	}
	mustLeave(t, append(slices.Clone(leave), stay...), result{Own: behind(stay), Gone: behind(leave)})
	mustLeave(t, append(slices.Clone(stay), leave...), result{Own: behind(stay), Gone: behind(leave)})
	mustRun(t, small(), -1, append(slices.Clone(stay), leave...), nil, result{Own: behind(append(slices.Clone(stay), leave...))})
}

// TestWhereOneStandsNow: not where it stood ahead of the tick.
func TestWhereOneStandsNow(t *testing.T) {
	mustLeave(t, entities(moving(a(), 256, 9, -1, 0)), result{Own: entities(moving(a(), 255, 9, -1, 0))})
	mustLeave(t, entities(standing(a(), 256, 9)), result{Gone: entities(standing(a(), 256, 9))})
	mustLeave(t, entities(standing(a(), -9, -9)), result{Own: entities(standing(a(), 0, 0))})
	mustLeave(t, entities(standing(a(), 600, 9)), result{Gone: entities(standing(a(), 511, 9))})
	mustRun(t, small(), -1, entities(standing(a(), 600, -9)), nil, result{Own: entities(standing(a(), 511, 0))})
	mustLeave(t, entities(standing(a(), 5, 9)), result{Gone: entities(standing(a(), 300, 9))}, give(a(), standing(b(), 300, 9))) // no command that may be
}

// TestTheDeadRise: of all that ended them, each name once.
func TestTheDeadRise(t *testing.T) {
	foe := strong(name(3, 0, 0), 0, 0, 3)
	l := entities(ageing(a(), 1), foe, weak(d(), 0, 0, 1), standing(b(), 0, 0), weak(c(), 0, 0, 9), ageing(name(0, 0, 9), 1), weak(name(0, 0, 4), 0, 0, 2))
	mustLeave(t, l, result{Own: entities(foe), Dead: dead(a(), b(), name(0, 0, 4), name(0, 0, 9), c(), d())}, end(c()), end(b()))
	twice := entities(ageing(a(), 1), weak(a(), 0, 0, 1), standing(a(), 0, 0), foe)
	mustLeave(t, twice, result{Own: entities(standing(a(), 0, 0), foe), Dead: dead(a())})
	mustLeave(t, twice, result{Own: entities(foe), Dead: dead(a())}, end(a()))
	mustLeave(t, twice, result{Own: entities(foe), Dead: dead(a())}, end(a()), begin(ageing(a(), 1)))
}

// everyCommand is some of each kind, for two names, in zone 0 and beside it.
func everyCommand() []api.Cmd {
	var l []api.Cmd
	for _, id := range []api.ID{a(), b()} {
		l = append(l, begin(weak(id, 250, 3, 2)), begin(api.Bundle{ID: id, Mask: all, X: 260, Y: 3, VX: -9, HP: 5, Power: 1, Left: 1}),
			end(id), give(id, api.Bundle{Mask: vel | left, VX: 8, Left: 2}), take(id, vel|left))
	}
	return l
}

// TestShortScripts: all rows of three commands, from some beginnings.
func TestShortScripts(t *testing.T) {
	w := small()
	for _, own := range [][]api.Bundle{
		nil,
		entities(weak(b(), 250, 0, 3), strong(c(), 255, 9, 2)),
		entities(api.Bundle{ID: a(), Mask: all, X: 255, Y: 255, VX: 1, VY: 1, HP: 3, Power: 1, Left: 1}, weak(b(), 250, 0, 3), weak(b(), 250, 1, 1)),
	} {
		for _, one := range everyCommand() {
			for _, two := range everyCommand() {
				for _, three := range everyCommand() {
					for _, zone := range []int{-1, 0, 1} {
						mustRunAsModelled(t, w, zone, own, nil, one, two, three)
					}
				}
			}
		}
	}
}

// TestRunOfAnything: as the chapter says, of all kinds of lists, entities and commands, also of such as may not be.
func TestRunOfAnything(t *testing.T) {
	seed := sample.Chance(1)
	for _, w := range append(worlds(), small()) {
		for range 1500 {
			w.Radius = seed.Below(30)
			zone := seed.Below(count(w)+1) - 1
			mustRunAsModelled(t, w, zone, some(&seed, 6, anyEntity), some(&seed, 6, anyEntity), commands(&seed, w, 6, anyEntity, 12)...)
			mustRunAsModelled(t, w, zone, some(&seed, 6, anything), some(&seed, 6, anything), commands(&seed, w, 6, anything, 12)...)
		}
	}
}

// TestCommandsOfAnything: any numbers in all their fields.
func TestCommandsOfAnything(t *testing.T) {
	seed := sample.Chance(2)
	odd := oddNumbers()
	for range 6000 {
		own := some(&seed, 4, anything)
		var cmds []api.Cmd
		for range seed.Below(5) {
			cmd := api.Cmd{Kind: seed.Below(6), ID: anything(&seed, 12, 40).ID, B: anything(&seed, 12, 600), Mask: odd[seed.Below(len(odd))]}
			if seed.Below(9) == 0 {
				cmd.Kind = odd[seed.Below(len(odd))]
			}
			cmds = append(cmds, cmd)
		}
		mustRunAsModelled(t, small(), seed.Below(5)-1, own, nil, cmds...)
	}
}

func TestRunOfMany(t *testing.T) {
	var own []api.Bundle
	var cmds []api.Cmd
	for i := range 1200 {
		own = append(own, api.Bundle{ID: name(0, 0, 1200-i), Mask: all, X: i % 256, VX: 9, HP: 2000, Power: i % 2, Left: 1 + i%3})
		cmds = append(cmds, begin(standing(name(1, 0, i), i%512, 0)), giveLife(name(0, 0, i/2), 1+i))
	}
	w := small()
	w.Radius = 256
	for _, zone := range []int{-1, 0} {
		mustRunAsModelled(t, w, zone, own, own[:100], cmds...)
	}
}

// 15.2

// crowd is entities of a world, with unlike names; some stand at borders.
func crowd(seed *sample.Chance, w api.Config, n int) []api.Bundle {
	var l []api.Bundle
	for i := range n {
		one := anyEntity(seed, 1, w.Side)
		one.ID = name(seed.Below(3), i/3, i)
		one.X += w.Side * seed.Below(w.Cols)
		one.Y += w.Side * seed.Below(w.Rows)
		if seed.Below(2) == 0 {
			one.X = one.X / w.Side * w.Side
		}
		if one.Mask&vel != 0 {
			one.VX, one.VY = seed.Below(2*w.Speed+9)-w.Speed-4, seed.Below(2*w.Speed+9)-w.Speed-4
		}
		l = append(l, one)
	}
	return l
}

// orders is commands that may be: for those that are there, and for those that begin, whose names nobody has, from a generation on.
func orders(seed *sample.Chance, w api.Config, l []api.Bundle, gen, n int) []api.Cmd {
	var out []api.Cmd
	for i := range n {
		cmd := anyCommand(seed, w, anyEntity, 1)
		if cmd.Kind == spawn {
			cmd.B.ID = name(7, 0, gen+i)
		} else if len(l) > 0 {
			cmd.ID = l[seed.Below(len(l))].ID
		}
		out = append(out, cmd)
	}
	return out
}

// inParts is what the ticks of all zones leave together, of entities that stand in a world.
func inParts(t *testing.T, w api.Config, l []api.Bundle, cmds ...api.Cmd) result {
	var sum result
	var gone []api.ID
	for zone := range count(w) {
		var own, near []api.Bundle
		for _, b := range l {
			switch far := apart(w, zone, b); {
			case far == 0:
				own = append(own, b)
			case far <= w.Radius:
				near = append(near, b)
			}
		}
		r := tick.Run(mapOf(w), zone, own, near, cmds...)
		for _, b := range r.Own {
			if zoneOf(w, b) != zone {
				t.Errorf("%+v stays in the zone %d", b, zone)
			}
		}
		for _, b := range r.Gone {
			if to := zoneOf(w, b); to < 0 || to == zone || !beside(w, zone, to) {
				t.Errorf("%+v goes from the zone %d", b, zone)
			}
		}
		sum.Own = append(sum.Own, append(r.Own, r.Gone...)...)
		gone = append(gone, r.Dead...)
	}
	sum.Own = rising(sum.Own)
	sum.Dead = (&model{dead: gone}).names()
	return sum
}

// busyWorlds is such as have much going on at borders.
func busyWorlds() []api.Config {
	var l []api.Config
	for cols := 1; cols <= 4; cols++ {
		for rows := 1; rows <= 3; rows++ {
			for _, reach := range []int{0, 1, 60, 256} {
				l = append(l, api.Config{Cols: cols, Rows: rows, Side: 256, Radius: reach, Speed: 256 - reach, Ids: 16, Queue: 64})
			}
		}
	}
	return l
}

// TestTheWorldFallsApart: the tick of the whole world leaves what the ticks of all zones leave together.
func TestTheWorldFallsApart(t *testing.T) {
	seed := sample.Chance(3)
	for _, w := range busyWorlds() {
		for range 40 {
			l := crowd(&seed, w, seed.Below(30))
			cmds := orders(&seed, w, l, 0, seed.Below(8))
			mustRun(t, w, -1, l, nil, inParts(t, w, l, cmds...), cmds...)
		}
	}
}

// TestTheWorldFallsApartTickByTick: with what the ticks ahead left.
func TestTheWorldFallsApartTickByTick(t *testing.T) {
	seed := sample.Chance(4)
	for _, w := range busyWorlds() {
		l := crowd(&seed, w, 40)
		for at := range 12 {
			cmds := orders(&seed, w, l, 3*at, 3)
			want := inParts(t, w, l, cmds...)
			mustRun(t, w, -1, l, nil, want, cmds...)
			l = want.Own
		}
	}
}

// shuffled is a list in another order.
func shuffled[T any](seed *sample.Chance, l []T) []T {
	out := slices.Clone(l)
	for at := range out {
		with := at + seed.Below(len(out)-at)
		out[at], out[with] = out[with], out[at]
	}
	return out
}

// TestTheOrderIsNotTold: of own, and of near.
func TestTheOrderIsNotTold(t *testing.T) {
	seed := sample.Chance(5)
	for _, w := range busyWorlds() {
		for range 20 {
			l, near := crowd(&seed, w, seed.Below(20)), crowd(&seed, w, seed.Below(20))
			cmds := orders(&seed, w, l, 0, seed.Below(8))
			for zone := -1; zone < count(w); zone++ {
				want := tick.Run(mapOf(w), zone, l, near, cmds...)
				mustRun(t, w, zone, shuffled(&seed, l), shuffled(&seed, near), want, cmds...)
			}
		}
	}
}

// TestTheOrderOfCommandsForUnlikeNamesIsNotTold: each has one command.
func TestTheOrderOfCommandsForUnlikeNamesIsNotTold(t *testing.T) {
	seed := sample.Chance(6)
	for _, w := range busyWorlds() {
		for range 20 {
			l := crowd(&seed, w, seed.Below(20))
			var cmds []api.Cmd
			for _, cmd := range orders(&seed, w, l, 0, 12) {
				if !slices.ContainsFunc(cmds, func(c api.Cmd) bool { return c.Kind != spawn && c.ID == cmd.ID }) {
					cmds = append(cmds, cmd)
				}
			}
			for zone := -1; zone < count(w); zone++ {
				mustRun(t, w, zone, l, nil, tick.Run(mapOf(w), zone, l, nil, cmds...), shuffled(&seed, cmds)...)
			}
		}
	}
}

// The rules

// TestWhatIsHandedInIsLeftAlone: R4: nor is what stands behind the lists.
func TestWhatIsHandedInIsLeftAlone(t *testing.T) {
	seed := sample.Chance(7)
	w := small()
	m := mapOf(w)
	for range 500 {
		long := crowd(&seed, w, 12)
		cmds := orders(&seed, w, long, 0, 6)
		wasLong, wasCmds := slices.Clone(long), slices.Clone(cmds)
		from, to := seed.Below(10), seed.Below(7)
		want := run(w, 0, slices.Clone(long[:from]), slices.Clone(long[from:9]), slices.Clone(cmds[:to])...)
		if got := tick.Run(m, 0, long[:from], long[from:9], cmds[:to]...); !same(got, want) {
			t.Errorf("%+v, want %+v", got, want)
		}
		if !slices.Equal(long, wasLong) || !slices.Equal(cmds, wasCmds) || m.Config != w {
			t.Fatalf("something is another one: %+v, %+v, %+v", long, cmds, m)
		}
	}
}

// TestWhatIsAnsweredIsTheAskersOwn: R4, R5.
func TestWhatIsAnsweredIsTheAskersOwn(t *testing.T) {
	own, near := entities(moving(b(), 255, 0, 1, 0), standing(c(), 0, 0), standing(d(), 5, 0), weak(a(), 100, 100, 1)), entities(strong(name(9, 9, 9), 100, 100, 1))
	cmds := []api.Cmd{begin(standing(name(2, 0, 0), 1, 1)), end(d())}
	ask := func() result { return tick.Run(mapOf(small()), 0, own, near, cmds...) }
	one, other := ask(), ask()
	clear(one.Own[len(one.Own):cap(one.Own)]) // no list stands in another one's room
	clear(one.Gone[len(one.Gone):cap(one.Gone)])
	clear(one.Dead[len(one.Dead):cap(one.Dead)])
	if !same(one, other) {
		t.Errorf("behind changes of what lies behind its lists: %+v", one)
	}
	clear(one.Own)
	clear(one.Gone)
	clear(one.Dead)
	clear(own)
	clear(near)
	clear(cmds)
	want := result{Own: entities(standing(c(), 0, 0), standing(name(2, 0, 0), 1, 1)), Gone: entities(moving(b(), 256, 0, 1, 0)), Dead: dead(a(), d())}
	if !same(other, want) {
		t.Errorf("behind changes of another answer, and of the arguments: %+v, want %+v", other, want)
	}
}

// TestExample is the chapter's.
func TestExample(t *testing.T) {
	one := api.Bundle{ID: a(), Mask: pos | vel | life, X: 250, VX: 10, HP: 3}
	behind := one
	behind.X, behind.HP = 260, 1
	mustRun(t, small(), 0, entities(one), entities(strong(b(), 260, 0, 2)), result{Gone: entities(behind)})
}

// TestTwoThatHurtOneAnother is the document's ninth example.
func TestTwoThatHurtOneAnother(t *testing.T) {
	w := small()
	w.Radius = 9
	one := func(id api.ID, x, hp int) api.Bundle {
		return api.Bundle{ID: id, Mask: pos | life | power, X: x, HP: hp, Power: 3}
	}
	mustRun(t, w, -1, entities(one(a(), 0, 4), one(b(), 5, 4)), nil, result{Own: entities(one(a(), 0, 1), one(b(), 5, 1))})
	mustRun(t, w, -1, entities(one(a(), 0, 1), one(b(), 5, 1)), nil, result{Dead: dead(a(), b())})
}

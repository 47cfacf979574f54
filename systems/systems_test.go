package systems_test

import (
	"math"
	"slices"
	"testing"

	"hedgerow/api"
	"hedgerow/sample"
	"hedgerow/systems"
	"hedgerow/zones"
)

// a, b and c are names; each differs in another part from the first one.
func a() api.ID { return name(0, 0, 0) }
func b() api.ID { return name(0, 0, 1) }
func c() api.ID { return name(0, 1, 0) }

// 14.1

func TestHitsOfNobody(t *testing.T) {
	for _, radius := range []int{math.MinInt, -1, 0, 1, far, math.MaxInt} {
		mustHit(t, radius, nil, nil)
		mustHit(t, radius, []api.Bundle{}, []api.Bundle{})
		mustHit(t, radius, nil, []api.Bundle{weak(a(), 0, 0), strong(b(), 0, 0, 3)}) // others take nothing
		mustHit(t, radius, []api.Bundle{weak(a(), 0, 0), weak(b(), 0, 0)}, []api.Bundle{weak(c(), 0, 0)})
		mustHit(t, radius, []api.Bundle{strong(a(), 0, 0, 3), strong(b(), 0, 0, 4)}, []api.Bundle{strong(c(), 0, 0, 5)})
	}
}

// TestHitsComeFromBoth: from own ones and from others.
func TestHitsComeFromBoth(t *testing.T) {
	mustHit(t, 5, []api.Bundle{weak(a(), 0, 0), strong(b(), 1, 0, 3)}, nil, hit(a(), 3))
	mustHit(t, 5, []api.Bundle{weak(a(), 0, 0)}, []api.Bundle{strong(b(), 1, 0, 3)}, hit(a(), 3))
	mustHit(t, 5, []api.Bundle{weak(a(), 0, 0), strong(b(), 1, 0, 3)}, []api.Bundle{strong(c(), 0, 1, 4)}, hit(a(), 7))
	mustHit(t, 5, []api.Bundle{strong(b(), 1, 0, 3), weak(a(), 0, 0)}, []api.Bundle{weak(c(), 0, 1)}, hit(a(), 3))
	mustHit(t, 5, []api.Bundle{weak(a(), 0, 0)}, []api.Bundle{strong(b(), 1, 0, 3), strong(b(), 1, 0, 3)}, hit(a(), 6)) // each of a name, by itself
}

// TestHitsGoBothWays: all that have both.
func TestHitsGoBothWays(t *testing.T) {
	one, other := of(a(), all, 1), of(b(), all, 1)
	mustHit(t, 0, []api.Bundle{one, other}, nil, hit(a(), other.Power), hit(b(), one.Power))
	mustHit(t, 0, []api.Bundle{other}, []api.Bundle{one}, hit(b(), one.Power))
}

// TestHitsOfMasks: of whoever has Life, by whoever has Power, whatever else both have.
func TestHitsOfMasks(t *testing.T) {
	for mask := 0; mask <= all; mask++ {
		for other := 0; other <= all; other++ {
			own := []api.Bundle{of(a(), mask, 1), of(b(), other, 2)}
			mustHitAsModelled(t, 100, own, nil)
			mustHitAsModelled(t, 100, own[:1], own[1:])
			var want []api.Hit
			if mask&life != 0 && other&power != 0 {
				want = []api.Hit{hit(a(), own[1].Power)}
			}
			mustHit(t, 100, own[:1], own[1:], want...)
		}
	}
}

// TestHitsLookAtComponents: a number whose component is not there is none.
func TestHitsLookAtComponents(t *testing.T) {
	for _, mask := range []int{0, pos, all - life, all - power, 32, 64, -32} {
		ghost := api.Bundle{ID: b(), Mask: mask, HP: 9, Power: 3}
		switch own := []api.Bundle{weak(a(), 0, 0), ghost}; mask {
		case all - life:
			mustHit(t, 5, own, []api.Bundle{strong(c(), 0, 0, 4)}, hit(a(), 7))
		case all - power:
			mustHit(t, 5, own, []api.Bundle{strong(c(), 0, 0, 4)}, hit(a(), 4), hit(b(), 4))
		default:
			mustHit(t, 5, own, []api.Bundle{strong(c(), 0, 0, 4)}, hit(a(), 4))
		}
	}
}

// TestNobodyHitsItself: nor does another one of its name, here or there.
func TestNobodyHitsItself(t *testing.T) {
	for _, id := range names() {
		one := api.Bundle{ID: id, Mask: all, HP: 9, Power: 3, Left: 1}
		mustHit(t, 5, []api.Bundle{one}, nil)
		mustHit(t, 5, []api.Bundle{one, one}, []api.Bundle{one})
		for _, other := range names() {
			if other != id {
				mustHit(t, 5, []api.Bundle{one}, []api.Bundle{one, strong(other, 0, 0, 4)}, hit(id, 4))
			}
		}
	}
}

// TestHitsByRadius: at most so far apart, the greater of both ways.
func TestHitsByRadius(t *testing.T) {
	for dx := -4; dx <= 4; dx++ {
		for dy := -4; dy <= 4; dy++ {
			for radius := -2; radius <= 5; radius++ {
				own, others := []api.Bundle{weak(a(), 20, 30)}, []api.Bundle{strong(b(), 20+dx, 30+dy, 3)}
				mustHitAsModelled(t, radius, own, others)
				if max(dx, -dx, dy, -dy) <= radius {
					mustHit(t, radius, own, others, hit(a(), 3))
				} else {
					mustHit(t, radius, own, others)
				}
			}
		}
	}
}

// TestHitsFarOff: numbers of places count as the nearest fixed ones, the radius as it is.
func TestHitsFarOff(t *testing.T) {
	for _, x := range []int{math.MinInt, -far - 1, -far, -far + 1, 0, far - 1, far, far + 1, math.MaxInt} {
		for _, y := range []int{math.MinInt, -far, 0, far, math.MaxInt} {
			for _, radius := range []int{math.MinInt, -1, 0, 1, far - 1, far, far + 1, 2*far - 1, 2 * far, 2*far + 1, math.MaxInt} {
				mustHitAsModelled(t, radius, []api.Bundle{weak(a(), x, y)}, []api.Bundle{strong(b(), y, x, 3)})
				mustHitAsModelled(t, radius, []api.Bundle{weak(a(), x, y), strong(b(), -x, y, 3)}, nil)
			}
		}
	}
	mustHit(t, 2*far, []api.Bundle{weak(a(), math.MinInt, 0)}, []api.Bundle{strong(b(), math.MaxInt, 0, 3)}, hit(a(), 3))
	mustHit(t, 2*far-1, []api.Bundle{weak(a(), math.MinInt, 0)}, []api.Bundle{strong(b(), math.MaxInt, 0, 3)})
}

// TestOnlyWhoTakesSomethingIsHit: what comes to 0, or less, is no Hit.
func TestOnlyWhoTakesSomethingIsHit(t *testing.T) {
	for _, powers := range [][]int{{}, {0}, {0, 0}, {-1}, {3, -3}, {3, -4}, {math.MinInt}, {far, -far}} {
		var l []api.Bundle
		for _, n := range powers {
			l = append(l, strong(b(), 0, 0, n))
		}
		mustHit(t, 5, []api.Bundle{weak(a(), 0, 0)}, l)
		mustHit(t, 5, append(l, weak(a(), 0, 0)), nil)
		mustHit(t, 5, []api.Bundle{weak(a(), 0, 0)}, append(l, strong(c(), 0, 0, 1), strong(c(), 0, 0, 1<<40)), hit(a(), sum(append(powers, 1, 1<<40)...)))
	}
}

// sum is what numbers come to by chapter 2.
func sum(l ...int) int {
	n := 0
	for _, x := range l {
		n = fixed(n + fixed(x))
	}
	return n
}

// TestHitsAreAddedInOrder: each sum is cut, so that the order tells; those of own come first, as they stand, not by their names.
func TestHitsAreAddedInOrder(t *testing.T) {
	names := []api.ID{c(), b(), name(1, 0, 0), name(0, 0, 2)}
	for _, powers := range [][]int{
		{far, 1, -1, 5}, {far, -1, 1, 5}, {-1, far, 1, 5}, {1, far, -1, 5}, {-far, -5, far, 9}, {far, far, -far, -1}, {-far, far, -far, 3},
		{math.MaxInt, 1, -2, 0}, {math.MinInt, -7, math.MaxInt, 4}, {2 * far, -1, 2 * far, -3},
	} {
		var l []api.Bundle
		for i, n := range powers {
			l = append(l, strong(names[i], 0, 0, n))
		}
		var want []api.Hit
		if n := sum(powers...); n > 0 {
			want = []api.Hit{hit(a(), n)}
		}
		for at := 0; at <= len(l); at++ {
			for there := 0; there <= at; there++ { // a itself may stand anywhere
				mustHit(t, 5, slices.Insert(slices.Clone(l[:at]), there, weak(a(), 0, 0)), l[at:], want...)
			}
		}
	}
}

// TestHitsRise: by the names of whom they hit; those of one name as they stand.
func TestHitsRise(t *testing.T) {
	from := []api.Bundle{strong(name(2, 2, 2), 0, 0, 1), strong(name(2, 2, 3), 50, 0, 2)}
	own := []api.Bundle{
		weak(name(1, 0, 0), 50, 0), weak(name(0, 1, 0), 0, 0), weak(a(), 50, 0), weak(name(0, 0, 5), 0, 0), weak(name(0, 1, 0), 50, 0),
		weak(name(0, 0, 3), 25, 0), weak(name(15, 0, 0), 0, 0), weak(a(), 0, 0), weak(name(-1, 9, 9), 0, 0), weak(name(0, 1, 0), 0, 0),
	}
	mustHit(t, 9, own, from,
		hit(name(-1, 9, 9), 1), hit(a(), 2), hit(a(), 1), hit(name(0, 0, 5), 1), hit(name(0, 1, 0), 1), hit(name(0, 1, 0), 2), hit(name(0, 1, 0), 1),
		hit(name(1, 0, 0), 2), hit(name(15, 0, 0), 1))
}

// TestHitsOfAnything: as the chapter says, of all kinds of lists.
func TestHitsOfAnything(t *testing.T) {
	seed := sample.Chance(1)
	for range 4000 {
		mustHitAsModelled(t, seed.Below(30)-2, some(&seed, 8, anyEntity), some(&seed, 8, anyEntity))
		mustHitAsModelled(t, seed.Below(30)-2, some(&seed, 8, anything), some(&seed, 8, anything))
	}
	odd := oddNumbers()
	for range 2000 {
		mustHitAsModelled(t, odd[seed.Below(len(odd))], some(&seed, 8, anything), some(&seed, 8, anything))
	}
}

func TestHitsOfMany(t *testing.T) {
	var own, others []api.Bundle
	for i := range 1500 {
		own = append(own, api.Bundle{ID: name(0, 0, 1500-i), Mask: all, X: i % 7, Y: i % 11, HP: 9, Power: 2})
		others = append(others, strong(name(1, 0, i), 0, 0, 3))
	}
	var want []api.Hit
	for i := range 1500 {
		want = append(want, hit(name(0, 0, i+1), 1499*2+1500*3))
	}
	mustHit(t, 10, own, others, want...)
}

// 14.2

func TestHurt(t *testing.T) {
	for mask := 0; mask <= all; mask++ {
		for n := range 20 {
			x := of(a(), mask, n)
			for sum := -3; sum <= 150; sum++ {
				got, is := systems.Hurt(x, sum)
				want, wantIs := hurt(x, sum)
				mustLeave(t, "Hurt", got, is, want, wantIs)
			}
		}
	}
}

func TestHurtAtTheEnds(t *testing.T) {
	x := of(a(), all, 1)
	for _, hp := range []int{1, 2, 3, 1 << 20, math.MaxInt} {
		x.HP = hp
		less := x
		less.HP = 1
		for _, sum := range []int{math.MinInt, -1, 0} {
			got, is := systems.Hurt(x, sum)
			mustLeave(t, "Hurt by nothing", got, is, x, true)
		}
		for _, sum := range []int{hp, math.MaxInt} {
			got, is := systems.Hurt(x, sum)
			mustLeave(t, "Hurt by all", got, is, api.Bundle{}, false)
		}
		if hp > 1 {
			got, is := systems.Hurt(x, hp-1)
			mustLeave(t, "Hurt by all but 1", got, is, less, true)
		}
	}
}

// TestHurtOfWhatMayNotBe: an HP that is not above 0 is not above what hurts; without that it stays.
func TestHurtOfWhatMayNotBe(t *testing.T) {
	for _, id := range names() {
		for _, mask := range allNumbers() {
			for _, hp := range allNumbers() {
				x := api.Bundle{ID: id, Mask: mask, X: hp, VY: mask, HP: hp, Power: -hp, Left: mask}
				for _, sum := range []int{math.MinInt, -1, 0, 1, 2, 256, far, math.MaxInt} {
					got, is := systems.Hurt(x, sum)
					want, wantIs := hurt(x, sum)
					mustLeave(t, "Hurt", got, is, want, wantIs)
				}
			}
		}
	}
}

func TestAge(t *testing.T) {
	for mask := 0; mask <= all; mask++ {
		for n := range 20 {
			x := of(a(), mask, n)
			got, is := systems.Age(x)
			want, wantIs := age(x)
			mustLeave(t, "Age", got, is, want, wantIs)
		}
	}
}

// TestAgeToTheEnd: Left is how many ticks there are.
func TestAgeToTheEnd(t *testing.T) {
	x := of(a(), all, 1)
	x.Left = 5
	for n := 4; n > 0; n-- {
		want := x
		want.Left = n
		got, is := systems.Age(x)
		mustLeave(t, "Age", got, is, want, true)
		x = got
	}
	got, is := systems.Age(x)
	mustLeave(t, "Age", got, is, api.Bundle{}, false)
}

func TestAgeOfWhatMayNotBe(t *testing.T) {
	for _, id := range names() {
		for _, mask := range allNumbers() {
			for _, n := range allNumbers() {
				x := api.Bundle{ID: id, Mask: mask, X: n, VY: mask, HP: -n, Power: n, Left: n}
				got, is := systems.Age(x)
				want, wantIs := age(x)
				mustLeave(t, "Age", got, is, want, wantIs)
			}
		}
	}
}

// TestObeyOfOneself: of all masks, all kinds.
func TestObeyOfOneself(t *testing.T) {
	for mask := 0; mask <= all; mask++ {
		for with := 0; with <= all; with++ {
			x := of(b(), mask, 1)
			got, is := systems.Obey(x, api.Cmd{Kind: despawn, ID: b()})
			mustLeave(t, "Obey a CmdDespawn", got, is, api.Bundle{}, false)
			got, is = systems.Obey(x, api.Cmd{Kind: set, ID: b(), B: of(a(), with, 2)})
			mustLeave(t, "Obey a CmdSet", got, is, over(x, of(a(), with, 2)), true)
			got, is = systems.Obey(x, api.Cmd{Kind: drop, ID: b(), Mask: with})
			mustLeave(t, "Obey a CmdDrop", got, is, less(x, with), true)
			got, is = systems.Obey(x, api.Cmd{Kind: spawn, ID: b(), B: of(a(), with, 2)})
			mustLeave(t, "Obey a CmdSpawn", got, is, x, true)
		}
	}
}

// TestObeyOfAnother: a command for one name is nothing to all others.
func TestObeyOfAnother(t *testing.T) {
	for _, id := range names() {
		for _, other := range names() {
			for _, kind := range []int{spawn, despawn, set, drop} {
				x, cmd := of(id, all, 1), api.Cmd{Kind: kind, ID: other, B: of(id, all, 2), Mask: life | left}
				got, is := systems.Obey(x, cmd)
				want, wantIs := obey(x, cmd)
				mustLeave(t, "Obey", got, is, want, wantIs)
				if id != other {
					mustLeave(t, "Obey", got, is, x, true)
				}
			}
		}
	}
}

func TestObeyOfNoKind(t *testing.T) {
	for _, kind := range append(oddNumbers(), 0, spawn, 5, 6, 7, 8, 9, 12) {
		for _, id := range names() {
			x := of(id, all, 1)
			got, is := systems.Obey(x, api.Cmd{Kind: kind, ID: id, B: of(id, all, 2), Mask: all})
			mustLeave(t, "Obey", got, is, x, true)
		}
	}
}

// TestObeyOfWhatMayNotBe: nothing of an entity or a command is looked at but what the kind takes.
func TestObeyOfWhatMayNotBe(t *testing.T) {
	for _, mask := range allNumbers() {
		for _, n := range allNumbers() {
			wild := api.Bundle{ID: b(), Mask: mask, X: n, Y: n, VX: n, VY: n, HP: n, Power: n, Left: n}
			for _, x := range []api.Bundle{wild, of(b(), pos, 1), of(b(), all, 1), {}} {
				for _, kind := range []int{spawn, despawn, set, drop} {
					for _, cmd := range []api.Cmd{{Kind: kind, ID: x.ID, B: wild, Mask: n}, {Kind: kind, ID: x.ID, B: of(a(), all, 5), Mask: mask}} {
						got, is := systems.Obey(x, cmd)
						want, wantIs := obey(x, cmd)
						mustLeave(t, "Obey", got, is, want, wantIs)
					}
				}
			}
		}
	}
}

// TestObeyLeavesWhatMayBe: what a command of chapter 9 does.
func TestObeyLeavesWhatMayBe(t *testing.T) {
	for mask := pos; mask <= all; mask += 2 {
		for with := vel; with <= all; with += 2 {
			for _, cmd := range []api.Cmd{{Kind: set, ID: b(), B: of(a(), with, 2)}, {Kind: drop, ID: b(), Mask: with}} {
				if x, is := systems.Obey(of(b(), mask, 1), cmd); !is || !mayBe(x) {
					t.Errorf("%+v: %+v, %v", cmd, x, is)
				}
			}
		}
	}
}

// 14.3

func TestMove(t *testing.T) {
	for _, w := range worlds() {
		m := mapOf(t, w)
		for _, x := range []int{0, 1, w.Side - 1, w.Side, w.Cols*w.Side - 1} {
			for _, y := range []int{0, 1, w.Side - 1, w.Side % (w.Rows * w.Side), w.Rows*w.Side - 1} {
				for _, v := range []int{-w.Side - 1, -w.Speed - 1, -w.Speed, -w.Speed + 1, -1, 0, 1, w.Speed - 1, w.Speed, w.Speed + 1, far} {
					for mask := 0; mask <= all; mask++ {
						one := api.Bundle{ID: a(), Mask: mask, X: x, Y: y, VX: v, VY: 7, HP: 1, Power: 2, Left: 3}
						mustMove(t, m, one, move(w, one))
						one.VX, one.VY = 3, v
						mustMove(t, m, one, move(w, one))
					}
				}
			}
		}
	}
}

// TestMoveIsNoFasterThanSpeed: in X, and in Y, but VX and VY stay as they are.
func TestMoveIsNoFasterThanSpeed(t *testing.T) {
	m := mapOf(t, api.Config{Cols: 2, Rows: 2, Side: 256, Speed: 10, Ids: 1, Queue: 1})
	for _, v := range []int{10, 11, 255, far, far + 1, math.MaxInt} {
		for _, u := range []int{-10, -11, -255, -far, -far - 1, math.MinInt, math.MinInt + 1} {
			mustMove(t, m, api.Bundle{Mask: pos | vel, X: 100, Y: 100, VX: v, VY: u}, api.Bundle{Mask: pos | vel, X: 110, Y: 90, VX: v, VY: u})
			mustMove(t, m, api.Bundle{Mask: pos | vel, X: 100, Y: 100, VX: u, VY: v}, api.Bundle{Mask: pos | vel, X: 90, Y: 110, VX: u, VY: v})
		}
	}
	mustMove(t, m, api.Bundle{Mask: pos | vel, X: 100, Y: 100, VX: 9, VY: -9}, api.Bundle{Mask: pos | vel, X: 109, Y: 91, VX: 9, VY: -9})
}

// TestMoveStaysInTheWorld: beyond no end of it.
func TestMoveStaysInTheWorld(t *testing.T) {
	m := mapOf(t, api.Config{Cols: 2, Rows: 1, Side: 256, Speed: 10, Ids: 1, Queue: 1})
	for _, l := range [][6]int{
		{508, 3, 40, -2, 511, 1}, {508, 3, 3, -3, 511, 0}, {508, 3, 4, -4, 511, 0}, {0, 0, -1, -1, 0, 0}, {9, 255, -10, 1, 0, 255}, {501, 245, 10, 10, 511, 255},
	} {
		mustMove(t, m, api.Bundle{Mask: pos | vel, X: l[0], Y: l[1], VX: l[2], VY: l[3]}, api.Bundle{Mask: pos | vel, X: l[4], Y: l[5], VX: l[2], VY: l[3]})
	}
}

// TestMoveWithoutVel: whoever does not move is brought into the world all the same.
func TestMoveWithoutVel(t *testing.T) {
	m := mapOf(t, api.Config{Cols: 2, Rows: 1, Side: 256, Speed: 10, Ids: 1, Queue: 1})
	for mask := 0; mask <= all; mask++ {
		if mask&vel != 0 {
			continue
		}
		mustMove(t, m, api.Bundle{Mask: mask, X: 7, Y: 8, VX: 3, VY: 4}, api.Bundle{Mask: mask, X: 7, Y: 8, VX: 3, VY: 4})
		mustMove(t, m, api.Bundle{Mask: mask, X: -4, Y: 256, VX: 9, VY: 9}, api.Bundle{Mask: mask, Y: 255, VX: 9, VY: 9})
		mustMove(t, m, api.Bundle{Mask: mask, X: math.MaxInt, Y: math.MinInt}, api.Bundle{Mask: mask, X: 511})
	}
}

func TestMoveOfWhatMayNotBe(t *testing.T) {
	seed := sample.Chance(5)
	odd := allNumbers()
	n := func() int { return odd[seed.Below(len(odd))] }
	for _, w := range worlds() {
		m := mapOf(t, w)
		for range 5000 {
			one := api.Bundle{ID: names()[seed.Below(8)], Mask: n(), X: n(), Y: n(), VX: n(), VY: n(), HP: n(), Power: n(), Left: n()}
			mustMove(t, m, one, move(w, one))
			one.Mask = vel
			mustMove(t, m, one, move(w, one))
		}
	}
}

func TestMoveOfANilMap(t *testing.T) {
	seed := sample.Chance(6)
	for range 1000 {
		one := anything(&seed, 9, 300)
		mustMove(t, nil, one, one)
		one.Mask, one.VX = all, far
		mustMove(t, nil, one, one)
	}
}

// TestMoveOfAMapThatNewDidNotMake: it ends, and nothing but the place is another one.
func TestMoveOfAMapThatNewDidNotMake(t *testing.T) {
	for _, n := range allNumbers() {
		m := &zones.Map{Config: api.Config{Cols: n, Rows: n, Side: n, Speed: n}}
		got, want := systems.Move(m, of(a(), all, 1)), of(a(), all, 1)
		want.X, want.Y = got.X, got.Y
		if got != want {
			t.Errorf("%d: %+v", n, got)
		}
	}
	mustMove(t, new(zones.Map), of(a(), all, 1), with(with(of(a(), all, 1), numbers()[0].In, 0), numbers()[1].In, 0))
}

// 14.4

// TestHitsOfParts: what each takes does not hang on how all are parted.
func TestHitsOfParts(t *testing.T) {
	seed := sample.Chance(7)
	for range 1500 {
		var together []api.Bundle
		for i := range 1 + seed.Below(9) {
			x := anyEntity(&seed, 1, 40)
			x.ID = name(seed.Below(3), i, 0)
			together = append(together, x)
		}
		radius := seed.Below(30)
		var parted []api.Hit
		var mine, rest []api.Bundle
		for _, x := range together {
			if seed.Below(2) == 0 {
				mine = append(mine, x)
			} else {
				rest = append(rest, x)
			}
		}
		parted = append(systems.Hits(radius, mine, rest...), systems.Hits(radius, rest, mine...)...)
		slices.SortFunc(parted, func(x, y api.Hit) int {
			if ahead(x.ID, y.ID) {
				return -1
			}
			return 1
		})
		mustHit(t, radius, together, nil, parted...)
		for _, x := range together { // all of them as others, also those that are hit
			alone := systems.Hits(radius, []api.Bundle{x}, together...)
			want := slices.DeleteFunc(slices.Clone(parted), func(h api.Hit) bool { return h.ID != x.ID })
			if !slices.Equal(alone, want) {
				t.Errorf("%+v of %+v: %v, want %v", x, together, alone, want)
			}
		}
	}
}

// TestMoveToAZoneBeside: or it stays in its own.
func TestMoveToAZoneBeside(t *testing.T) {
	seed := sample.Chance(8)
	for _, w := range worlds() {
		m := mapOf(t, w)
		for range 3000 {
			x := of(a(), pos|vel, 1)
			x.X, x.Y = seed.Below(w.Cols*w.Side), seed.Below(w.Rows*w.Side)
			x.VX, x.VY = seed.Below(1<<22)-1<<21, seed.Below(1<<22)-1<<21
			from := m.Of(x.X, x.Y)
			x = systems.Move(m, x)
			to := m.Of(x.X, x.Y)
			if to < 0 || to != from && !slices.Contains(m.Beside(from), to) || !mayBe(x) {
				t.Errorf("%+v: from %d to %d: %+v", w, from, to, x)
			}
		}
	}
}

// The rules

// TestWhatIsHandedInIsLeftAlone: R4: nor is what stands behind the lists.
func TestWhatIsHandedInIsLeftAlone(t *testing.T) {
	long := []api.Bundle{weak(name(2, 0, 0), 0, 0), weak(a(), 0, 0), strong(c(), 0, 0, 5), strong(b(), 0, 0, 7), weak(name(1, 0, 0), 0, 0)}
	was := slices.Clone(long)
	for end := 0; end <= len(long); end++ {
		for from := 0; from <= len(long); from++ {
			mustHitAsModelled(t, 5, long[:end], long[from:])
			mustHitAsModelled(t, 5, long[from:], long[:end])
			mustHitAsModelled(t, 5, long[:end], was[from:])
		}
	}
	if !slices.Equal(long, was) {
		t.Errorf("the list is another one: %+v", long)
	}
}

// TestWhatIsAnsweredIsTheAskersOwn: R4, R5.
func TestWhatIsAnsweredIsTheAskersOwn(t *testing.T) {
	own, others := []api.Bundle{weak(a(), 0, 0), weak(b(), 0, 0)}, []api.Bundle{strong(c(), 0, 0, 5)}
	one, other := systems.Hits(5, own, others...), systems.Hits(5, own, others...)
	clear(one)
	_ = append(one[:1], hit(c(), 9))
	clear(own)
	clear(others)
	if !slices.Equal(other, []api.Hit{hit(a(), 5), hit(b(), 5)}) {
		t.Errorf("behind changes of another answer, and of the arguments: %v", other)
	}
}

// TestMoveLeavesTheMap: R4.
func TestMoveLeavesTheMap(t *testing.T) {
	for _, w := range worlds() {
		m := mapOf(t, w)
		systems.Move(m, of(a(), all, 50))
		if *m != (zones.Map{Config: w}) {
			t.Errorf("%+v, want %+v", m, w)
		}
	}
}

// TestExample is the chapter's.
func TestExample(t *testing.T) {
	one, two, three := weak(a(), 0, 0), strong(b(), 2, 0, 3), strong(c(), 9, 0, 4)
	mustHit(t, 5, []api.Bundle{one}, []api.Bundle{two, three}, hit(a(), 3))
	mustHit(t, 9, []api.Bundle{one}, []api.Bundle{two, three}, hit(a(), 7))
	dead, is := systems.Hurt(api.Bundle{Mask: api.Pos | api.Life, HP: 3}, 3)
	mustLeave(t, "Hurt", dead, is, api.Bundle{}, false)
	m := mapOf(t, api.Config{Cols: 2, Rows: 1, Side: 256, Speed: 10, Ids: 1, Queue: 1})
	mustMove(t, m, api.Bundle{X: 500, VX: 40, Mask: 3}, api.Bundle{X: 510, VX: 40, Mask: 3})
}

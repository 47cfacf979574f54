package parts_test

import (
	"math"
	"slices"
	"testing"

	"hedgerow/api"
	"hedgerow/parts"
)

// The bits of a Mask, and all of them.
const (
	pos, vel, life, power, left = 1, 2, 4, 8, 16
	all                         = 31
)

const (
	far    = 1 << 30 // the greatest fixed number
	maxGen = 1 << 20
)

// number is one of an entity's by the chapter's words: the bit of its component, and from where to where it is if that is there.
type number struct {
	name             string
	bit, least, most int
	in               func(b *api.Bundle) *int
}

func numbers() []number {
	return []number{
		{"X", pos, -far, far, func(b *api.Bundle) *int { return &b.X }},
		{"Y", pos, -far, far, func(b *api.Bundle) *int { return &b.Y }},
		{"VX", vel, -far, far, func(b *api.Bundle) *int { return &b.VX }},
		{"VY", vel, -far, far, func(b *api.Bundle) *int { return &b.VY }},
		{"HP", life, 1, 1 << 20, func(b *api.Bundle) *int { return &b.HP }},
		{"Power", power, 0, 1 << 10, func(b *api.Bundle) *int { return &b.Power }},
		{"Left", left, 1, 1 << 20, func(b *api.Bundle) *int { return &b.Left }},
	}
}

// part is one of a name's by the chapter's words: it is from 0 to most.
type part struct {
	name string
	most int
	in   func(id *api.ID) *int
}

func nameParts() []part {
	return []part{
		{"Shard", 15, func(id *api.ID) *int { return &id.Shard }},
		{"Index", 15, func(id *api.ID) *int { return &id.Index }},
		{"Gen", maxGen - 1, func(id *api.ID) *int { return &id.Gen }},
	}
}

// name is one.
func name(shard, index, gen int) api.ID { return api.ID{Shard: shard, Index: index, Gen: gen} }

// bitOf tells a bit of a mask, of negative ones and very large ones too.
func bitOf(mask, bit int) bool { return uint64(mask)>>bit&1 == 1 }

// has is what the chapter says of one bit that a mask may have.
func has(mask, bit int) bool {
	for n := 0; n < 64; n++ {
		if 1<<n == bit {
			return bitOf(mask, n)
		}
	}
	return false
}

func goodName(id api.ID) bool {
	for _, p := range nameParts() {
		if n := *p.in(&id); n < 0 || n > p.most {
			return false
		}
	}
	return true
}

func goodComponents(b api.Bundle) bool {
	for _, x := range numbers() {
		switch n := *x.in(&b); {
		case has(b.Mask, x.bit) && (n < x.least || n > x.most), !has(b.Mask, x.bit) && n != 0:
			return false
		}
	}
	return b.Mask >= 0 && b.Mask <= all
}

func goodEntity(b api.Bundle) bool { return goodName(b.ID) && goodComponents(b) && has(b.Mask, pos) }

// takes: of all masks from 1 to All just the even ones have not Pos.
func takes(mask int) bool { return mask > 0 && mask <= all && mask%2 == 0 }

// isNothing tells whether all of an entity is 0, its name too.
func isNothing(b api.Bundle) bool {
	for _, x := range numbers() {
		if *x.in(&b) != 0 {
			return false
		}
	}
	return isNoName(b.ID) && b.Mask == 0
}

func isNoName(id api.ID) bool { return id.Shard == 0 && id.Index == 0 && id.Gen == 0 }

func goodCommand(c api.Cmd) bool {
	switch c.Kind {
	case 1:
		return goodEntity(c.B) && isNoName(c.ID) && c.Mask == 0
	case 2:
		return goodName(c.ID) && isNothing(c.B) && c.Mask == 0
	case 3:
		return goodName(c.ID) && c.Mask == 0 && isNoName(c.B.ID) && takes(c.B.Mask) && goodComponents(c.B)
	case 4:
		return goodName(c.ID) && isNothing(c.B) && takes(c.Mask)
	}
	return false
}

// hasAll is Has by the chapter's words, bit by bit.
func hasAll(b api.Bundle, mask int) bool {
	for n := 0; n < 64; n++ {
		if bitOf(mask, n) && !bitOf(b.Mask, n) {
			return false
		}
	}
	return true
}

// put is With by the chapter's words.
func put(b, c api.Bundle) api.Bundle {
	for _, x := range numbers() {
		if has(c.Mask, x.bit) {
			*x.in(&b) = *x.in(&c)
		}
	}
	mask := uint64(0)
	for n := 0; n < 64; n++ {
		if bitOf(b.Mask, n) || bitOf(c.Mask, n) {
			mask += 1 << n
		}
	}
	b.Mask = int(mask)
	return b
}

// took is Without by the chapter's words.
func took(b api.Bundle, mask int) api.Bundle {
	for _, x := range numbers() {
		if has(mask, x.bit) {
			*x.in(&b) = 0
		}
	}
	stays := uint64(0)
	for n := 0; n < 64; n++ {
		if bitOf(b.Mask, n) && !bitOf(mask, n) {
			stays += 1 << n
		}
	}
	b.Mask = int(stays)
	return b
}

// order is Compare by the chapter's words.
func order(a, b api.ID) int {
	for _, p := range nameParts() {
		if x, y := *p.in(&a), *p.in(&b); x < y {
			return -1
		} else if x > y {
			return 1
		}
	}
	return 0
}

// inOrder is Sorted by the chapter's words: each comes behind all that it must not stand ahead of.
func inOrder(l []api.Bundle) []api.Bundle {
	var sorted []api.Bundle
	for _, b := range l {
		at := len(sorted)
		for at > 0 && order(sorted[at-1].ID, b.ID) > 0 {
			at--
		}
		sorted = slices.Insert(sorted, at, b)
	}
	return sorted
}

// place is Find by the chapter's words.
func place(l []api.Bundle, id api.ID) (int, bool) {
	for i, b := range l {
		if order(b.ID, id) >= 0 {
			return i, order(b.ID, id) == 0
		}
	}
	return len(l), false
}

// distant is numbers beyond all that may be; some of them are such as may be if bits of them are lost.
func distant() []int {
	l := []int{math.MinInt, math.MinInt + 1, math.MaxInt, math.MaxInt - 1}
	for _, bit := range []int{8, 11, 16, 21, 24, 31, 32, 33, 40, 48, 52, 56, 60, 61, 62} {
		l = append(l, 1<<bit, 1<<bit+1, 1<<bit-1, -1<<bit, -1<<bit+1, -1<<bit-1)
	}
	return l
}

// about is the numbers at both ends of what may be and beside them, about 0, and distant ones.
func about(least, most int) []int {
	l := append(distant(), -2, -1, 0, 1, 2)
	for d := -2; d <= 2; d++ {
		l = append(l, least+d, most+d)
	}
	slices.Sort(l)
	return slices.Compact(l)
}

// masks is all of them from -1 to All and one more, and such as have other bits.
func masks() []int {
	l := append(distant(), -33, -32, -31, -16, -2, 33, 48, 63, 64, 65, 95)
	for m := -1; m <= all+1; m++ {
		l = append(l, m)
	}
	slices.Sort(l)
	return slices.Compact(l)
}

// whole is an entity that may be, with all components; no two of its numbers are alike.
func whole() api.Bundle {
	return api.Bundle{ID: name(1, 2, 3), Mask: all, X: 11, Y: -12, VX: 13, VY: -14, HP: 15, Power: 16, Left: 17}
}

// of is an entity that may be, but for Pos, with the components of a mask.
func of(mask int) api.Bundle {
	b := whole()
	b.Mask = mask
	for _, x := range numbers() {
		if !has(mask, x.bit) {
			*x.in(&b) = 0
		}
	}
	return b
}

// nameless is components without a name.
func nameless(b api.Bundle) api.Bundle {
	b.ID = api.ID{}
	return b
}

// with is an entity of which one number is another one.
func with(b api.Bundle, x number, n int) api.Bundle {
	*x.in(&b) = n
	return b
}

// withName is an entity of another name.
func withName(b api.Bundle, id api.ID) api.Bundle {
	b.ID = id
	return b
}

// withMask is an entity of which the Mask alone is another one.
func withMask(b api.Bundle, mask int) api.Bundle {
	b.Mask = mask
	return b
}

// chance is the same row of numbers each time.
func chance() func(n int) int {
	seed := uint64(1)
	return func(n int) int {
		seed = seed*6364136223846793005 + 1442695040888963407
		return int((seed >> 33) % uint64(n))
	}
}

// anyNumber is a number of any size.
func anyNumber(next func(int) int) int {
	n := (next(1<<31) << 33) ^ (next(1<<31) << 8) ^ next(1<<8)
	return n >> next(64)
}

// anyName is mostly one that may be.
func anyName(next func(int) int) api.ID {
	id := name(next(16), next(16), next(maxGen))
	if next(20) == 0 {
		p := nameParts()[next(3)]
		*p.in(&id) = anyNumber(next)
	}
	return id
}

// anyComponents is mostly such as may be, without a name.
func anyComponents(next func(int) int) api.Bundle {
	var b api.Bundle
	b.Mask = next(all + 1)
	for _, x := range numbers() {
		if has(b.Mask, x.bit) {
			*x.in(&b) = x.least + next(x.most-x.least+1)
		}
	}
	if next(8) == 0 {
		x := numbers()[next(7)]
		*x.in(&b) = anyNumber(next)
	}
	if next(16) == 0 {
		b.Mask = anyNumber(next)
	}
	return b
}

func anyEntity(next func(int) int) api.Bundle { return withName(anyComponents(next), anyName(next)) }

// anyCommand is of any kind, mostly with just what its kind has.
func anyCommand(next func(int) int) api.Cmd {
	c := api.Cmd{Kind: 1 + next(4)}
	switch c.Kind {
	case 1:
		c.B = anyEntity(next)
	case 3:
		c.ID, c.B = anyName(next), anyComponents(next)
		c.B.Mask &^= pos * next(2)
	case 2, 4:
		c.ID = anyName(next)
	}
	if c.Kind == 4 || next(20) == 0 {
		c.Mask = next(all + 2)
	}
	if next(20) == 0 {
		c.ID = anyName(next)
	}
	if next(20) == 0 {
		c.B = anyEntity(next)
	}
	return c
}

// errUnless is the error of what may not be.
func errUnless(good bool) api.Errno {
	if good {
		return api.OK
	}
	return api.ErrArg
}

func mustCheckID(t *testing.T, id api.ID, good bool) {
	t.Helper()
	if e := parts.CheckID(id); e != errUnless(good) {
		t.Errorf("CheckID(%+v): %d, want %d", id, e, errUnless(good))
	}
}

func mustCheck(t *testing.T, b api.Bundle, good bool) {
	t.Helper()
	if e := parts.Check(b); e != errUnless(good) {
		t.Errorf("Check(%+v): %d, want %d", b, e, errUnless(good))
	}
}

func mustCheckCmd(t *testing.T, c api.Cmd, good bool) {
	t.Helper()
	if e := parts.CheckCmd(c); e != errUnless(good) {
		t.Errorf("CheckCmd(%+v): %d, want %d", c, e, errUnless(good))
	}
}

// mustSet says so if a command that sets these components may not be though they may, or the other way round.
func mustSet(t *testing.T, b api.Bundle, good bool) {
	t.Helper()
	mustCheckCmd(t, api.Cmd{Kind: 3, ID: name(4, 5, 6), B: nameless(b)}, good)
}

func mustHave(t *testing.T, b api.Bundle, mask int, want bool) {
	t.Helper()
	if is := parts.Has(b, mask); is != want {
		t.Errorf("Has(%+v, %d): %v", b, mask, is)
	}
}

func mustPut(t *testing.T, b, c, want api.Bundle) {
	t.Helper()
	if got := parts.With(b, c); got != want {
		t.Errorf("With(%+v, %+v): %+v, want %+v", b, c, got, want)
	}
}

func mustTake(t *testing.T, b api.Bundle, mask int, want api.Bundle) {
	t.Helper()
	if got := parts.Without(b, mask); got != want {
		t.Errorf("Without(%+v, %d): %+v, want %+v", b, mask, got, want)
	}
}

func mustCompare(t *testing.T, a, b api.ID, want int) {
	t.Helper()
	if n := parts.Compare(a, b); n != want {
		t.Errorf("Compare(%v, %v): %d, want %d", a, b, n, want)
	}
}

func mustSort(t *testing.T, l []api.Bundle, want []api.Bundle) {
	t.Helper()
	if got := parts.Sorted(l...); !slices.Equal(got, want) {
		t.Errorf("Sorted of %v: %v, want %v", l, got, want)
	}
}

func mustFind(t *testing.T, l []api.Bundle, id api.ID, at int, is bool) {
	t.Helper()
	if i, there := parts.Find(l, id); i != at || there != is {
		t.Errorf("Find(%v) in %v: %d, %v; want %d, %v", id, l, i, there, at, is)
	}
}

// 9.1

func TestCheckID(t *testing.T) {
	for _, id := range []api.ID{{}, name(15, 0, 0), name(0, 15, 0), name(0, 0, maxGen-1), name(15, 15, maxGen-1), name(7, 8, 9)} {
		mustCheckID(t, id, true)
	}
	for _, id := range []api.ID{name(16, 0, 0), name(0, 16, 0), name(0, 0, maxGen), name(-1, 0, 0), name(0, -1, 0), name(0, 0, -1), name(-1, -1, -1), name(16, 16, maxGen)} {
		mustCheckID(t, id, false)
	}
}

// TestEachPartOfAName: at each end of what may be and beyond, by names whose other parts are at theirs.
func TestEachPartOfAName(t *testing.T) {
	for _, p := range nameParts() {
		for _, n := range about(0, p.most) {
			for _, id := range []api.ID{{}, name(1, 2, 3), name(15, 15, maxGen-1)} {
				*p.in(&id) = n
				good := n >= 0 && n <= p.most
				mustCheckID(t, id, good)
				mustCheck(t, withName(whole(), id), good)
				mustCheck(t, withName(of(pos), id), good)
				mustCheckCmd(t, api.Cmd{Kind: 1, B: withName(whole(), id)}, good)
				mustCheckCmd(t, api.Cmd{Kind: 2, ID: id}, good)
				mustCheckCmd(t, api.Cmd{Kind: 3, ID: id, B: nameless(of(vel))}, good)
				mustCheckCmd(t, api.Cmd{Kind: 4, ID: id, Mask: vel}, good)
			}
		}
	}
}

func TestAllNamesAtTheirEnds(t *testing.T) {
	ends := []int{math.MinInt, -1, 0, 15, 16, maxGen - 1, maxGen, math.MaxInt}
	for _, k := range ends {
		for _, i := range ends {
			for _, g := range ends {
				mustCheckID(t, name(k, i, g), goodName(name(k, i, g)))
			}
		}
	}
	for k := 0; k < 16; k++ {
		for i := 0; i < 16; i++ {
			mustCheckID(t, name(k, i, k*i), true)
		}
	}
}

func TestCheck(t *testing.T) {
	for _, b := range []api.Bundle{
		whole(),
		{Mask: 1},
		{Mask: 3},
		{Mask: 5, HP: 1},
		{Mask: 9},
		{Mask: 9, Power: 1},
		{Mask: 17, Left: 1},
		{ID: name(15, 15, maxGen-1), Mask: 31, X: far, Y: far, VX: far, VY: far, HP: 1 << 20, Power: 1 << 10, Left: 1 << 20},
		{Mask: 31, X: -far, Y: -far, VX: -far, VY: -far, HP: 1, Left: 1},
	} {
		mustCheck(t, b, true)
	}
	for _, b := range []api.Bundle{
		{},
		{Mask: 4, HP: 9},
		{Mask: 1, HP: 9},
		{Mask: 5},
		{Mask: 17},
		{Mask: 30, VX: 1, VY: 1, HP: 1, Power: 1, Left: 1}, // all but Pos
		{X: 1, Y: 1},
		{Mask: 1, VX: 1},
		{Mask: 32},
		{Mask: 33},
		{Mask: -1, HP: 1, Left: 1},
		{ID: name(16, 0, 0), Mask: 1},
	} {
		mustCheck(t, b, false)
	}
}

// TestEachNumberAtItsEnds: of each mask that has its component.
func TestEachNumberAtItsEnds(t *testing.T) {
	for _, x := range numbers() {
		for _, n := range about(x.least, x.most) {
			good := n >= x.least && n <= x.most
			for mask := 0; mask <= all; mask++ {
				if has(mask, x.bit) {
					mustCheck(t, with(of(mask), x, n), good && has(mask, pos))
					mustSet(t, with(of(mask), x, n), good && !has(mask, pos))
					mustCheckCmd(t, api.Cmd{Kind: 1, B: with(of(mask), x, n)}, good && has(mask, pos))
				}
			}
		}
	}
}

// TestNumbersOfAMissingComponent: one by one, of each mask that has it not; what it might be if it were there counts for nothing.
func TestNumbersOfAMissingComponent(t *testing.T) {
	for _, x := range numbers() {
		for _, n := range about(x.least, x.most) {
			for mask := 0; mask <= all; mask++ {
				if !has(mask, x.bit) {
					mustCheck(t, with(of(mask), x, n), n == 0 && has(mask, pos))
					mustSet(t, with(of(mask), x, n), n == 0 && takes(mask))
				}
			}
		}
	}
}

// TestMasks: with just the numbers of their components, with all of them, and with none.
func TestMasks(t *testing.T) {
	for _, mask := range masks() {
		isMask := mask >= 0 && mask <= all
		mustCheck(t, of(mask), isMask && mask%2 == 1)
		mustSet(t, of(mask), isMask && mask%2 == 0 && mask != 0)
		mustCheck(t, withMask(whole(), mask), mask == all)
		mustSet(t, withMask(whole(), mask), false)
		none := api.Bundle{Mask: mask}
		mustCheck(t, none, mask == pos || mask == pos|vel || mask == pos|power || mask == pos|vel|power)
		mustSet(t, none, mask == vel || mask == power || mask == vel|power)
		for _, id := range []api.ID{{}, name(1, 2, 3), name(15, 15, maxGen-1)} {
			mustCheckCmd(t, api.Cmd{Kind: 4, ID: id, Mask: mask}, isMask && mask%2 == 0 && mask != 0)
		}
		for kind := 1; kind <= 3; kind++ {
			c := api.Cmd{Kind: kind, Mask: mask}
			switch kind {
			case 1:
				c.B = whole()
			case 2:
				c.ID = name(1, 2, 3)
			case 3:
				c.ID, c.B = name(1, 2, 3), nameless(of(vel))
			}
			mustCheckCmd(t, c, mask == 0)
		}
	}
}

func TestCheckCmd(t *testing.T) {
	b, id := whole(), name(15, 15, maxGen-1)
	for _, c := range []api.Cmd{
		{Kind: 1, B: b},
		{Kind: 1, B: nameless(b)},
		{Kind: 1, B: api.Bundle{Mask: pos}},
		{Kind: 2},
		{Kind: 2, ID: id},
		{Kind: 3, B: api.Bundle{Mask: vel}},
		{Kind: 3, ID: id, B: nameless(of(all - pos))},
		{Kind: 4, Mask: vel},
		{Kind: 4, ID: id, Mask: all - pos},
	} {
		mustCheckCmd(t, c, true)
	}
	for _, c := range []api.Cmd{
		{},
		{B: b},
		{ID: id},
		{Kind: 1},
		{Kind: 1, ID: id, B: b},
		{Kind: 1, ID: b.ID, B: b},
		{Kind: 1, B: b, Mask: 1},
		{Kind: 1, B: b, Mask: vel},
		{Kind: 1, B: of(all - pos)},
		{Kind: 2, ID: id, B: b},
		{Kind: 2, ID: id, B: withName(api.Bundle{}, id)},
		{Kind: 2, ID: id, Mask: vel},
		{Kind: 3, ID: id},
		{Kind: 3, ID: id, B: of(vel)},
		{Kind: 3, ID: b.ID, B: of(vel)}, // the names are the same, which helps nothing
		{Kind: 3, ID: id, B: nameless(of(pos))},
		{Kind: 3, ID: id, B: nameless(of(all))},
		{Kind: 3, ID: id, B: nameless(of(vel)), Mask: vel},
		{Kind: 4, ID: id},
		{Kind: 4, ID: id, Mask: pos},
		{Kind: 4, ID: id, Mask: all},
		{Kind: 4, ID: id, Mask: vel, B: nameless(of(vel))},
		{Kind: 5, ID: id},
		{Kind: 5, B: b},
		{Kind: 5, ID: id, Mask: vel},
		{Kind: -1, B: b},
	} {
		mustCheckCmd(t, c, false)
	}
}

// entitiesForCommands: none, such as may be, and such of which just one thing is another one.
func entitiesForCommands() []api.Bundle {
	l := []api.Bundle{{}}
	for mask := -1; mask <= all+1; mask++ {
		l = append(l, of(mask), nameless(of(mask)))
	}
	for _, b := range []api.Bundle{{}, whole(), nameless(of(all - pos)), {Mask: vel}} {
		for _, x := range numbers() {
			for _, n := range []int{-1, 0, 1, x.least - 1, x.most, x.most + 1} {
				l = append(l, with(b, x, n))
			}
		}
		for _, p := range nameParts() {
			for _, n := range []int{-1, 1, p.most, p.most + 1} {
				one := b
				*p.in(&one.ID) = n
				l = append(l, one)
			}
		}
	}
	return l
}

// TestAllCommands: of each kind, with each of ID, B and Mask as it must be and as it may not be.
func TestAllCommands(t *testing.T) {
	names := []api.ID{{}, name(1, 2, 3), name(15, 15, maxGen-1)}
	for _, p := range nameParts() {
		for _, n := range []int{-1, 1, p.most, p.most + 1} {
			var id api.ID
			*p.in(&id) = n
			names = append(names, id)
		}
	}
	kinds := append(distant(), -4, -3, -2, -1, 0, 1, 2, 3, 4, 5, 6, 7, 8, 9)
	for _, kind := range kinds {
		for _, id := range names {
			for _, b := range entitiesForCommands() {
				for _, mask := range []int{-2, -1, 0, 1, 2, 3, 16, 30, 31, 32, 34} {
					c := api.Cmd{Kind: kind, ID: id, B: b, Mask: mask}
					if want := goodCommand(c); parts.CheckCmd(c) != errUnless(want) {
						mustCheckCmd(t, c, want)
					}
				}
			}
		}
		if t.Failed() {
			return
		}
	}
}

// TestAnyThing: of things of all kinds, mostly such as may be or nearly may.
func TestAnyThing(t *testing.T) {
	next := chance()
	good := 0
	for range 100000 {
		id, b, c := anyName(next), anyEntity(next), anyCommand(next)
		mustCheckID(t, id, goodName(id))
		mustCheck(t, b, goodEntity(b))
		mustCheckCmd(t, c, goodCommand(c))
		if goodCommand(c) {
			good++
		}
	}
	if good < 20000 || good > 80000 {
		t.Errorf("%d of the commands may be: too few, or too many, to tell much", good)
	}
}

// 9.2

func TestHas(t *testing.T) {
	b := of(life | left)
	for mask, want := range map[int]bool{0: true, 4: true, 16: true, 20: true, 1: false, 5: false, 21: false, 31: false, 36: false, 32: false, -1: false} {
		mustHave(t, b, mask, want)
	}
	mustHave(t, api.Bundle{}, 0, true)
	mustHave(t, api.Bundle{X: 1, HP: 1}, life, false) // the Mask alone tells
	mustHave(t, api.Bundle{Mask: life}, life, true)
	mustHave(t, api.Bundle{Mask: -1}, -1, true)
	mustHave(t, api.Bundle{Mask: -1}, math.MaxInt, true)
	mustHave(t, api.Bundle{Mask: math.MaxInt}, -1, false)
}

func TestWith(t *testing.T) {
	mustPut(t, api.Bundle{Mask: 1, X: 1}, api.Bundle{Mask: 4, HP: 9}, api.Bundle{Mask: 5, X: 1, HP: 9})
	// an entity put over itself, none put over it, it put over none
	mustPut(t, whole(), whole(), whole())
	mustPut(t, whole(), api.Bundle{}, whole())
	mustPut(t, whole(), api.Bundle{ID: name(4, 5, 6), X: 99, VY: 98, HP: 97, Left: 96}, whole())
	mustPut(t, api.Bundle{}, whole(), nameless(whole()))
	// what is 0 in it is put too
	mustPut(t, whole(), api.Bundle{Mask: all}, api.Bundle{ID: name(1, 2, 3), Mask: all})
	mustPut(t, api.Bundle{Mask: vel, VX: 3, VY: 4}, api.Bundle{Mask: vel, VY: 5}, api.Bundle{Mask: vel, VY: 5})
	// the numbers of what is not in it stay, also such as may not be
	mustPut(t, api.Bundle{X: 1, VX: 2, HP: 3}, api.Bundle{Mask: left, Left: 4, HP: 5}, api.Bundle{Mask: left, X: 1, VX: 2, HP: 3, Left: 4})
	mustPut(t, api.Bundle{Mask: -64, Power: 7}, api.Bundle{Mask: 32}, api.Bundle{Mask: -32, Power: 7})
}

func TestWithout(t *testing.T) {
	mustTake(t, api.Bundle{Mask: 5, X: 1, Y: 2, HP: 3}, 4, api.Bundle{Mask: 1, X: 1, Y: 2})
	mustTake(t, whole(), 0, whole())
	mustTake(t, whole(), all, api.Bundle{ID: name(1, 2, 3)})
	mustTake(t, whole(), -1, api.Bundle{ID: name(1, 2, 3)})
	mustTake(t, whole(), 32, whole())
	mustTake(t, whole(), math.MinInt, whole())
	// a number goes though the Mask has not its component, and stays if only the Mask has it not
	mustTake(t, api.Bundle{Mask: pos, X: 1, HP: 3, Left: 4}, life, api.Bundle{Mask: pos, X: 1, Left: 4})
	mustTake(t, api.Bundle{Mask: -1, VX: 3, Power: 4}, vel, api.Bundle{Mask: -3, Power: 4})
}

// others: an entity such as may be of that mask, one with all numbers, one with none, one with other numbers.
func others(mask int) []api.Bundle {
	odd := api.Bundle{ID: name(-1, 99, math.MinInt), X: math.MinInt, Y: math.MaxInt, VX: 1 << 40, VY: -1, HP: -5, Power: math.MaxInt, Left: math.MinInt}
	return []api.Bundle{of(mask), withMask(whole(), mask), {ID: name(9, 8, 7), Mask: mask}, withMask(odd, mask)}
}

// TestAllPairsOfMasks: from -1 to All and one more, and such as have other bits, of entities that may be and that may not be.
func TestAllPairsOfMasks(t *testing.T) {
	for _, one := range masks() {
		for _, b := range others(one) {
			for _, other := range masks() {
				mustHave(t, b, other, hasAll(b, other))
				mustTake(t, b, other, took(b, other))
				for _, c := range others(other) {
					c.ID, c.X, c.HP = name(3, 2, 1), c.X^5, c.HP^6
					if parts.With(b, c) != put(b, c) {
						mustPut(t, b, c, put(b, c))
					}
				}
			}
		}
		if t.Failed() {
			return
		}
	}
}

// TestEachNumberIsPutAndTaken: by its own component, and by no other.
func TestEachNumberIsPutAndTaken(t *testing.T) {
	for _, x := range numbers() {
		for mask := 0; mask <= all; mask++ {
			b, c := with(api.Bundle{Mask: all}, x, 5), with(api.Bundle{Mask: mask}, x, 7)
			put, stays := 5, 5
			if has(mask, x.bit) {
				put, stays = 7, 0
			}
			mustPut(t, b, c, with(api.Bundle{Mask: all}, x, put))
			mustTake(t, b, mask, with(api.Bundle{Mask: all - mask}, x, stays))
		}
	}
}

func TestAnyEntityPutAndTaken(t *testing.T) {
	next := chance()
	for range 100000 {
		b, c, mask := anyEntity(next), anyEntity(next), next(all+1)
		if next(4) == 0 {
			mask = anyNumber(next)
		}
		mustHave(t, b, mask, hasAll(b, mask))
		mustPut(t, b, c, put(b, c))
		mustTake(t, b, mask, took(b, mask))
	}
}

// 9.3

func TestCompare(t *testing.T) {
	rising := []api.ID{
		name(math.MinInt, math.MaxInt, math.MaxInt),
		name(-1, 5, 5),
		name(0, math.MinInt, 9),
		name(0, -1, 0),
		{},
		name(0, 0, 1),
		name(0, 0, 2),
		name(0, 0, math.MaxInt),
		name(0, 1, math.MinInt),
		name(0, 1, -1),
		name(0, 1, 0),
		name(0, 2, 0),
		name(0, 10, 0), // numbers, not texts
		name(1, 0, 0),
		name(1, 0, 1),
		name(2, 0, 0),
		name(10, 0, 0),
		name(math.MaxInt, math.MinInt, math.MinInt),
	}
	for i, a := range rising {
		for j, b := range rising {
			want := 0
			if i < j {
				want = -1
			} else if i > j {
				want = 1
			}
			mustCompare(t, a, b, want)
		}
	}
}

// TestCompareByEachPart: that differ in Shard, in Index and in Gen alone, in each pair of them, and in all, there and back.
func TestCompareByEachPart(t *testing.T) {
	grid := namesOf(math.MinInt, -far, -1, 0, 1, maxGen, math.MaxInt)
	for _, a := range grid {
		for _, b := range grid {
			if parts.Compare(a, b) != order(a, b) {
				mustCompare(t, a, b, order(a, b))
			}
			if there, back := parts.Compare(a, b), parts.Compare(b, a); there != -back {
				t.Errorf("%v, %v: %d, and back %d", a, b, there, back)
			}
			if (parts.Compare(a, b) == 0) != (a == b) {
				t.Errorf("%v, %v: %d", a, b, parts.Compare(a, b))
			}
		}
	}
}

// namesOf: all names whose parts are of a list.
func namesOf(l ...int) []api.ID {
	var names []api.ID
	for _, k := range l {
		for _, i := range l {
			for _, g := range l {
				names = append(names, name(k, i, g))
			}
		}
	}
	return names
}

func TestThreeInARow(t *testing.T) {
	grid := namesOf(math.MinInt, 0, math.MaxInt)
	for _, a := range grid {
		for _, b := range grid {
			for _, c := range grid {
				if parts.Compare(a, b) <= 0 && parts.Compare(b, c) <= 0 && parts.Compare(a, c) > 0 {
					t.Errorf("%v, %v, %v", a, b, c)
				}
			}
		}
	}
}

// row is entities of names of one shard, each with the place at which it stood as X.
func row(gens ...int) []api.Bundle {
	var l []api.Bundle
	for x, g := range gens {
		l = append(l, api.Bundle{ID: name(0, 0, g), Mask: pos, X: x})
	}
	return l
}

func TestSorted(t *testing.T) {
	a, b, c := api.Bundle{ID: name(0, 9, 9)}, api.Bundle{ID: name(1, 0, 9)}, api.Bundle{ID: name(1, 1, 0)}
	mustSort(t, nil, nil)
	mustSort(t, []api.Bundle{}, nil)
	mustSort(t, []api.Bundle{b}, []api.Bundle{b})
	if got := parts.Sorted(); len(got) != 0 {
		t.Error(got)
	}
	if got := parts.Sorted(c, a, b); !slices.Equal(got, []api.Bundle{a, b, c}) {
		t.Error(got)
	}
	for _, l := range [][]api.Bundle{{a, b, c}, {c, b, a}, {b, c, a}, {b, a, c}, {c, a, b}, {a, c, b}} {
		mustSort(t, l, []api.Bundle{a, b, c})
	}
	mustSort(t, []api.Bundle{a, a}, []api.Bundle{a, a})
	// it goes by the names alone, and takes each entity whole
	high, low := withName(whole(), name(0, 0, 1)), withMask(withName(whole(), name(0, 0, 1)), 0)
	mustSort(t, []api.Bundle{high, low, {}}, []api.Bundle{{}, high, low})
	mustSort(t, []api.Bundle{low, {}, high}, []api.Bundle{{}, low, high})
}

// TestSortedOfAllShortRows: of up to six entities with up to three names, in each order, those of one name as they stand.
func TestSortedOfAllShortRows(t *testing.T) {
	for length := 0; length <= 6; length++ {
		count := 1
		for range length {
			count *= 3
		}
		for n := 0; n < count; n++ {
			var gens []int
			for left := n; len(gens) < length; left /= 3 {
				gens = append(gens, left%3)
			}
			mustSort(t, row(gens...), inOrder(row(gens...)))
		}
	}
}

// TestSortedOfMany: sorted, turned round, all of one name, by turns and mixed.
func TestSortedOfMany(t *testing.T) {
	next := chance()
	for _, length := range []int{2, 11, 12, 13, 16, 20, 21, 32, 33, 50, 64, 100, 257, 1500} {
		shapes := map[string]func(n int) int{
			"rising":  func(n int) int { return n },
			"falling": func(n int) int { return -n },
			"one":     func(n int) int { return 7 },
			"turns":   func(n int) int { return n % 3 },
			"saw":     func(n int) int { return n * 7 % length },
			"pairs":   func(n int) int { return (length - n) / 2 },
			"mixed":   func(n int) int { return next(length) },
			"few":     func(n int) int { return next(4) },
		}
		for shape, gen := range shapes {
			var gens []int
			for n := range length {
				gens = append(gens, gen(n))
			}
			l := row(gens...)
			if !slices.Equal(parts.Sorted(l...), inOrder(l)) {
				t.Errorf("%d, %s: %v", length, shape, parts.Sorted(l...))
			}
		}
	}
}

func TestSortedOfAnyNames(t *testing.T) {
	next := chance()
	few := namesOf(math.MinInt, -1, 0, 1, math.MaxInt)
	for range 2000 {
		var l []api.Bundle
		for range next(40) {
			l = append(l, withName(anyComponents(next), few[next(len(few))]))
		}
		mustSort(t, l, inOrder(l))
	}
}

func TestFind(t *testing.T) {
	l := row(1, 3, 3, 3, 5)
	for g, want := range []struct {
		at int
		is bool
	}{{0, false}, {0, true}, {1, false}, {1, true}, {4, false}, {4, true}, {5, false}} {
		mustFind(t, l, name(0, 0, g), want.at, want.is)
	}
	mustFind(t, nil, api.ID{}, 0, false)
	mustFind(t, []api.Bundle{}, name(0, 0, 3), 0, false)
	mustFind(t, row(3), name(0, 0, 2), 0, false)
	mustFind(t, row(3), name(0, 0, 3), 0, true)
	mustFind(t, row(3), name(0, 0, 4), 1, false)
	mustFind(t, l, name(0, 1, 0), 5, false)
	mustFind(t, l, name(-1, 9, 9), 0, false)
	mustFind(t, []api.Bundle{withName(whole(), name(1, 2, 3))}, name(1, 2, 3), 0, true)
	// of a list that is not sorted the first that does not come ahead counts, whatever stands behind it
	mustFind(t, row(9, 3), name(0, 0, 3), 0, false)
	mustFind(t, row(2, 9, 1, 3, 4), name(0, 0, 3), 1, false)
	mustFind(t, row(1, 0, 3, 2, 3), name(0, 0, 3), 2, true)
	mustFind(t, row(5, 4, 3, 2, 1), name(0, 0, 1), 0, false)
	mustFind(t, row(2, 1, 2, 1), name(0, 0, 3), 4, false)
}

// TestFindInAllShortRows: sorted and not, of all names that are there and between.
func TestFindInAllShortRows(t *testing.T) {
	for length := 0; length <= 5; length++ {
		count := 1
		for range length {
			count *= 4
		}
		for n := 0; n < count; n++ {
			var gens []int
			for left := n; len(gens) < length; left /= 4 {
				gens = append(gens, 1+left%4*2)
			}
			l := row(gens...)
			for g := 0; g <= 8; g++ {
				at, is := place(l, name(0, 0, g))
				mustFind(t, l, name(0, 0, g), at, is)
			}
		}
	}
}

// TestFindByEachPart: each part of a name counts, whatever the others are.
func TestFindByEachPart(t *testing.T) {
	var l []api.Bundle
	for _, id := range namesOf(-far, -1, 1, far) {
		l = append(l, api.Bundle{ID: id})
	}
	for n, b := range l {
		mustFind(t, l, b.ID, n, true)
	}
	for _, id := range namesOf(math.MinInt, -2, -1, 0, 1, math.MaxInt) {
		at, is := place(l, id)
		mustFind(t, l, id, at, is)
	}
}

// TestFindInALongRow: of each name that is there, and of those between.
func TestFindInALongRow(t *testing.T) {
	var gens []int
	for n := range 1500 {
		gens = append(gens, 2*n)
	}
	l := row(gens...)
	for g := -1; g <= 3000; g++ {
		mustFind(t, l, name(0, 0, g), (g+1)/2, g%2 == 0 && g < 3000)
	}
}

func TestFindInManyOfAnyNames(t *testing.T) {
	next := chance()
	few := namesOf(-1, 0, 1, 2)
	for n := range 4000 {
		var l []api.Bundle
		for range next(60) {
			l = append(l, withName(anyComponents(next), few[next(len(few))]))
		}
		if n%2 == 0 {
			l = parts.Sorted(l...)
		}
		id := few[next(len(few))]
		at, is := place(l, id)
		mustFind(t, l, id, at, is)
	}
}

// What was handed over, and what was answered.

// TestTheListStaysAsItWas: also what lies behind its length, which counts for nothing.
func TestTheListStaysAsItWas(t *testing.T) {
	for length := 0; length <= 20; length++ {
		for _, step := range []int{-1, 1} {
			var gens []int
			for n := range length + 5 {
				gens = append(gens, n*step)
			}
			room := row(gens...)
			was := slices.Clone(room)
			for _, l := range [][]api.Bundle{room[:length], room[2 : 2+length]} {
				mustSort(t, l, inOrder(l))
				for _, g := range append(gens, -99, 99) {
					at, is := place(l, name(0, 0, g))
					mustFind(t, l, name(0, 0, g), at, is)
				}
			}
			if !slices.Equal(room, was) {
				t.Errorf("%d: %v, want %v", length, room, was)
			}
		}
	}
}

// TestWhatWasSortedIsTheAskers: whoever changes an answer changes neither the list nor another answer, nor the other way round.
func TestWhatWasSortedIsTheAskers(t *testing.T) {
	for _, l := range [][]api.Bundle{row(1), row(1, 2, 3), row(3, 2, 1), row(2, 2), append(make([]api.Bundle, 0, 9), row(1, 2)...)} {
		was, sorted := slices.Clone(l), inOrder(l)
		one, two := parts.Sorted(l...), parts.Sorted(l...)
		for i := range one {
			one[i] = whole()
		}
		_ = append(one, whole())
		if !slices.Equal(l, was) || !slices.Equal(two, sorted) {
			t.Errorf("%v, %v; want %v, %v", l, two, was, sorted)
		}
		for i := range l {
			l[i] = whole()
		}
		_ = append(l, whole())
		if !slices.Equal(two, sorted) {
			t.Errorf("%v, want %v", two, sorted)
		}
	}
}

// TestTheSameAgain: the same calls are answered the same, whatever was asked between.
func TestTheSameAgain(t *testing.T) {
	type answer struct {
		id, b, c api.Errno
		has, is  bool
		w, o     api.Bundle
		n, at    int
	}
	ask := func(next func(int) int) answer {
		var x answer
		b, c, id := anyEntity(next), anyEntity(next), anyName(next)
		l := parts.Sorted(b, c, api.Bundle{})
		x.id, x.b, x.c = parts.CheckID(id), parts.Check(b), parts.CheckCmd(anyCommand(next))
		x.has, x.w, x.o = parts.Has(b, c.Mask), parts.With(b, c), parts.Without(b, c.Mask)
		x.n = parts.Compare(b.ID, c.ID)
		x.at, x.is = parts.Find(l, id)
		return x
	}
	one, two := chance(), chance()
	var first []answer
	for range 5000 {
		first = append(first, ask(one))
	}
	for n, want := range first {
		if got := ask(two); got != want {
			t.Fatalf("%d: %+v, and %+v", n, want, got)
		}
	}
}

// 9.4

// TestWhatMayBeStays: what is put over an entity by components that may be leaves one that may be, and so does what is taken away, but Pos.
func TestWhatMayBeStays(t *testing.T) {
	next := chance()
	for mask := 1; mask <= all; mask += 2 {
		for other := 0; other <= all; other++ {
			for range 20 {
				b, c := goodOf(next, mask), goodOf(next, other)
				mustCheck(t, b, true)
				mustCheck(t, parts.With(b, c), true)
				mustCheck(t, parts.Without(b, other), !has(other, pos))
				if takes(other) {
					mustSet(t, c, true)
					mustSet(t, parts.With(c, parts.Without(b, pos)), true)
				}
			}
		}
	}
}

// goodOf is any components of a mask that may be, and any name that may be.
func goodOf(next func(int) int, mask int) api.Bundle {
	b := api.Bundle{ID: name(next(16), next(16), next(maxGen)), Mask: mask}
	for _, x := range numbers() {
		if has(mask, x.bit) {
			*x.in(&b) = []int{x.least, x.most, x.least + next(x.most-x.least+1)}[next(3)]
		}
	}
	return b
}

// mustFollow says so if what follows does not.
func mustFollow(t *testing.T, b, c, d api.Bundle) {
	t.Helper()
	if one, both := parts.With(parts.With(b, c), d), parts.With(b, parts.With(c, d)); one != both {
		t.Errorf("%+v, %+v, %+v: one after the other %+v, both %+v", b, c, d, one, both)
	}
	if took, without := parts.Without(parts.With(b, c), c.Mask), parts.Without(b, c.Mask); took != without {
		t.Errorf("%+v, %+v: put and taken away %+v, without it %+v", b, c, took, without)
	}
	if one, both := parts.Without(parts.Without(b, c.Mask), d.Mask), parts.Without(b, c.Mask|d.Mask); one != both {
		t.Errorf("%+v, %d, %d: one after the other %+v, both %+v", b, c.Mask, d.Mask, one, both)
	}
	if !parts.Has(parts.With(b, c), b.Mask) || !parts.Has(parts.With(b, c), c.Mask) || parts.Without(b, c.Mask).Mask&c.Mask != 0 {
		t.Errorf("%+v, %+v: the masks", b, c)
	}
	if w := parts.With(b, c); w.ID != b.ID || parts.With(w, c) != w || parts.With(b, b) != b {
		t.Errorf("%+v, %+v: %+v", b, c, w)
	}
}

// TestOneAfterTheOther: of entities that may be, and that may not be.
func TestOneAfterTheOther(t *testing.T) {
	next := chance()
	for range 50000 {
		mustFollow(t, goodOf(next, next(all+1)), goodOf(next, next(all+1)), goodOf(next, next(all+1)))
		mustFollow(t, anyEntity(next), anyEntity(next), anyEntity(next))
	}
	for one := -1; one <= all+1; one++ {
		for other := -1; other <= all+1; other++ {
			for _, third := range []int{-1, 0, 5, all, all + 1} {
				b, c, d := withMask(whole(), one), withMask(whole(), other), withMask(whole(), third)
				c.X, c.VY, c.HP, d.Y, d.Power, d.HP = 21, 22, 23, 31, 32, 33
				mustFollow(t, b, c, d)
			}
		}
	}
}

// Package sample has entities for the tests of the layers, and what chapters 2, 3, 4, 8, 9 and 14 say of them, worked out by their words. It calls no layer, so that each can be held against it; no layer calls it.
package sample

import (
	"math"

	"hedgerow/api"
)

// Number is one of an entity's: the bit of its component, and from where to where it is if that is there.
type Number struct {
	Bit, Least, Most int
	In               func(b *api.Bundle) *int
}

// Numbers tells all of an entity's.
func Numbers() []Number {
	return []Number{
		{api.Pos, -api.Max, api.Max, func(b *api.Bundle) *int { return &b.X }},
		{api.Pos, -api.Max, api.Max, func(b *api.Bundle) *int { return &b.Y }},
		{api.Vel, -api.Max, api.Max, func(b *api.Bundle) *int { return &b.VX }},
		{api.Vel, -api.Max, api.Max, func(b *api.Bundle) *int { return &b.VY }},
		{api.Life, 1, 1 << 20, func(b *api.Bundle) *int { return &b.HP }},
		{api.Power, 0, 1 << 10, func(b *api.Bundle) *int { return &b.Power }},
		{api.Left, 1, 1 << 20, func(b *api.Bundle) *int { return &b.Left }},
	}
}

// Part is one of a name's: it is from 0 to Most.
type Part struct {
	Most int
	In   func(id *api.ID) *int
}

// Parts tells all of a name's.
func Parts() []Part {
	return []Part{
		{15, func(id *api.ID) *int { return &id.Shard }},
		{15, func(id *api.ID) *int { return &id.Index }},
		{1<<20 - 1, func(id *api.ID) *int { return &id.Gen }},
	}
}

// Name makes one.
func Name(shard, index, gen int) api.ID {
	return api.ID{Shard: shard, Index: index, Gen: gen}
}

// Ahead tells whether a name stands ahead of another one.
func Ahead(a, b api.ID) bool {
	for _, p := range Parts() {
		if x, y := *p.In(&a), *p.In(&b); x != y {
			return x < y
		}
	}
	return false
}

// NameMayBe tells whether one may be.
func NameMayBe(id api.ID) bool {
	for _, p := range Parts() {
		if n := *p.In(&id); n < 0 || n > p.Most {
			return false
		}
	}
	return true
}

// MayBe tells whether an entity may be.
func MayBe(b api.Bundle) bool {
	for _, x := range Numbers() {
		switch n := *x.In(&b); {
		case b.Mask&x.Bit != 0 && (n < x.Least || n > x.Most), b.Mask&x.Bit == 0 && n != 0:
			return false
		}
	}
	return NameMayBe(b.ID) && b.Mask >= 0 && b.Mask <= api.All && b.Mask&api.Pos != 0
}

// Of makes an entity of a name, with the components of a mask, and with other numbers for each n below 100; it may be where the mask has Pos.
func Of(id api.ID, mask, n int) api.Bundle {
	b := api.Bundle{ID: id, Mask: mask}
	for i, x := range Numbers() {
		if mask&x.Bit != 0 {
			*x.In(&b) = 1 + n*7 + i
		}
	}
	return b
}

// With makes an entity one number of which is another one.
func With(b api.Bundle, in func(b *api.Bundle) *int, n int) api.Bundle {
	*in(&b) = n
	return b
}

// Over makes an entity over which the components of another one are put.
func Over(b, c api.Bundle) api.Bundle {
	for _, x := range Numbers() {
		if c.Mask&x.Bit != 0 {
			*x.In(&b) = *x.In(&c)
		}
	}
	b.Mask |= c.Mask
	return b
}

// Less makes an entity from which the components of a mask are taken.
func Less(b api.Bundle, mask int) api.Bundle {
	for _, x := range Numbers() {
		if mask&x.Bit != 0 {
			*x.In(&b) = 0
		}
	}
	b.Mask &= ^mask
	return b
}

// Nearest tells the number from one to another that is the nearest to n.
func Nearest(n, least, most int) int {
	switch {
	case n < least:
		return least
	case n > most:
		return most
	}
	return n
}

// Fixed tells the nearest fixed number.
func Fixed(n int) int {
	return Nearest(n, -api.Max, api.Max)
}

// Apart tells how far two entities' points lie apart.
func Apart(b, c api.Bundle) int {
	x, y := Fixed(b.X)-Fixed(c.X), Fixed(b.Y)-Fixed(c.Y)
	most := 0
	for _, n := range []int{x, -x, y, -y} {
		if n > most {
			most = n
		}
	}
	return most
}

// OddNumbers tells such as are none of a kind, nor a mask; some of them are such as may be if bits of them are lost.
func OddNumbers() []int {
	l := []int{math.MinInt, math.MinInt + 1, math.MaxInt, math.MaxInt - 1, -33, -32, -31, -16, -4, -3, -2, -1, 32, 33, 37, 48, 63, 64, 95, 255, 256}
	for _, bit := range []int{8, 16, 30, 31, 32, 33, 48, 62} {
		for n := -1; n <= 4; n++ {
			l = append(l, 1<<bit+n, -1<<bit+n)
		}
	}
	return l
}

// AllNumbers tells the odd ones and those about 0.
func AllNumbers() []int {
	return append(OddNumbers(), 0, 1, 2, 3, 4, 5, 8, 9, 10, 11, 13, 20, 30, 31)
}

// Names tells one that may be, those that differ from it in one part, and such as may not be.
func Names() []api.ID {
	return []api.ID{
		Name(0, 0, 0), Name(0, 0, 1), Name(0, 1, 0), Name(1, 0, 0), Name(15, 15, 1<<20-1),
		Name(-1, 0, 0), Name(0, 0, 1<<32), Name(math.MinInt, 3, math.MaxInt),
	}
}

// Worlds tells such as may be: with no speed, and the greatest one, and at both ends of their size.
func Worlds() []api.Config {
	return []api.Config{
		{Cols: 1, Rows: 1, Side: 256, Ids: 1, Queue: 1},
		{Cols: 2, Rows: 1, Side: 256, Radius: 9, Speed: 10, Ids: 1, Queue: 1},
		{Cols: 1, Rows: 3, Side: 300, Radius: 300, Speed: 300, Ids: 16, Queue: 64},
		{Cols: 4, Rows: 2, Side: 1000, Radius: 1, Speed: 1, Ids: 1, Queue: 1},
		{Cols: 4, Rows: 4, Side: 1 << 20, Radius: 1 << 20, Speed: 1 << 20, Ids: 16, Queue: 64},
	}
}

// BadNames tells such as may not be.
func BadNames() []api.ID {
	var l []api.ID
	for _, p := range Parts() {
		for _, n := range []int{math.MinInt, math.MaxInt, -1 << 32, 1 << 32, -2, -1, p.Most + 1, p.Most + 2} {
			var id api.ID
			*p.In(&id) = n
			l = append(l, id)
		}
	}
	return l
}

// BadNumbers tells entities of a name and a mask, each with one number that may not be.
func BadNumbers(id api.ID, mask int) []api.Bundle {
	var l []api.Bundle
	for _, x := range Numbers() {
		wrong := []int{math.MinInt, math.MaxInt, x.Least - 1, x.Most + 1, x.Least - 1<<32, x.Most + 1<<32}
		if mask&x.Bit == 0 {
			wrong = []int{math.MinInt, math.MaxInt, -1, 1, 1 << 32}
		}
		for _, n := range wrong {
			l = append(l, With(Of(id, mask, 1), x.In, n))
		}
	}
	return l
}

// Chance is numbers of which none seems to hang on those ahead, the same ones each time.
type Chance uint64

// Below tells the next one, from 0 on and below n.
func (c *Chance) Below(n int) int {
	*c = *c*6364136223846793005 + 1442695040888963407
	return int(*c>>33) % n
}

// Any is an entity of one of some names that may be, within a square.
func Any(seed *Chance, names, side int) api.Bundle {
	i := seed.Below(names)
	b := Of(Name(i%5, i/5%7, i/35), api.Pos|seed.Below(api.All+1), seed.Below(100))
	b.X, b.Y = seed.Below(side), seed.Below(side)
	return b
}

// Anything is now and then an entity that may not be.
func Anything(seed *Chance, names, side int) api.Bundle {
	b := Any(seed, names, side)
	odd := OddNumbers()
	for range seed.Below(3) {
		switch n := odd[seed.Below(len(odd))]; seed.Below(4) {
		case 0:
			b.Mask = n
		case 1:
			*Parts()[seed.Below(3)].In(&b.ID) = n
		default:
			*Numbers()[seed.Below(7)].In(&b) = n
		}
	}
	return b
}

// Some tells as many at most, made by one of both.
func Some(seed *Chance, most int, one func(seed *Chance, names, side int) api.Bundle) []api.Bundle {
	var l []api.Bundle
	for range seed.Below(most + 1) {
		l = append(l, one(seed, 12, 40))
	}
	return l
}

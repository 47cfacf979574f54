package buffer_test

import (
	"slices"
	"testing"

	"hedgerow/api"
	"hedgerow/arch"
	"hedgerow/buffer"
	"hedgerow/sample"
)

// a, b and c are names; each differs in another part from the first one.
func a() api.ID { return name(0, 0, 0) }
func b() api.ID { return name(0, 0, 1) }
func c() api.ID { return name(0, 1, 0) }

// 13.1

func TestDoOfAPut(t *testing.T) {
	s, m := both(t)
	for i, mask := range masks() {
		mustDo(t, s, m, api.Deed{Kind: put, B: of(name(i, 3, i), mask, i)})
		mustDo(t, s, m, api.Deed{Kind: put, B: of(name(15, i, maxGen-1), mask, i)})
	}
	if s.Len() != 32 {
		t.Errorf("Len: %d, want 32", s.Len())
	}
	for i, mask := range masks() { // they are there
		d := api.Deed{Kind: put, B: of(name(i, 3, i), all+pos-mask, 7)}
		must(t, "Do", buffer.Do(s, d), errThere)
		mustBeAlike(t, s, m)
	}
}

func TestDoOfAPutOfWhatMayNotBe(t *testing.T) {
	s, m := both(t, of(a(), pos, 1), of(b(), all, 2))
	for _, id := range append(badNames(), a(), c()) { // ErrArg is ahead of ErrThere
		for mask := 0; mask <= all; mask += 2 { // without Pos
			mustDo(t, s, m, api.Deed{Kind: put, B: of(id, mask, 1)})
		}
		for _, x := range append(badNumbers(id, pos|life), badNumbers(id, all)...) {
			must(t, "Do", buffer.Do(s, api.Deed{Kind: put, B: x}), errArg)
		}
		for _, mask := range oddNumbers() {
			x := of(id, pos, 1)
			x.Mask = mask
			must(t, "Do", buffer.Do(s, api.Deed{Kind: put, B: x}), errArg)
		}
		mustBeAlike(t, s, m)
	}
}

func TestDoOfARemove(t *testing.T) {
	for _, mask := range masks() {
		for _, gone := range []api.ID{a(), b(), c()} {
			s, m := both(t, of(a(), mask, 1), of(b(), mask, 2), of(c(), mask, 3))
			mustDo(t, s, m, api.Deed{Kind: remove, B: api.Bundle{ID: gone}})
			if _, there := s.Get(gone); there || s.Len() != 2 {
				t.Errorf("%v is there, Len %d", gone, s.Len())
			}
			must(t, "Do", buffer.Do(s, api.Deed{Kind: remove, B: api.Bundle{ID: gone}}), errNone)
			mustBeAlike(t, s, m)
		}
	}
}

// TestDoOfASet: of all components, over all.
func TestDoOfASet(t *testing.T) {
	for _, mask := range masks() {
		for with := 0; with <= all; with++ {
			s, m := both(t, of(a(), mask, 1), of(b(), mask, 2), of(c(), mask|with, 3))
			d := api.Deed{Kind: set, B: of(a(), with, 50)}
			mustDo(t, s, m, d)
			if got, _ := s.Get(a()); got != over(of(a(), mask, 1), of(a(), with, 50)) || got.Mask != mask|with {
				t.Errorf("%+v: %+v", d, got)
			}
			must(t, "Do", buffer.Do(s, d), ok) // it may be done again
			mustBeAlike(t, s, m)
		}
	}
}

// TestDoOfASetOfNoComponents: numbers of B whose component its Mask has not are not looked at.
func TestDoOfASetOfNoComponents(t *testing.T) {
	for _, mask := range masks() {
		s, m := both(t, of(a(), mask, 1), of(b(), mask, 2))
		for with := 0; with <= all; with++ {
			for _, x := range numbers() {
				if with&x.Bit == 0 {
					for _, n := range []int{-far - 1, -1, 1, far, far + 1} {
						d := api.Deed{Kind: set, B: of(a(), with, 3)}
						*x.In(&d.B) = n
						must(t, "Do", buffer.Do(s, d), ok)
						m.do(d)
					}
				}
			}
		}
		mustBeAlike(t, s, m)
	}
}

// TestDoOfASetAtTheEnds: each number may be what it may be at least, and at most, and nothing beyond.
func TestDoOfASetAtTheEnds(t *testing.T) {
	for _, x := range numbers() {
		for _, n := range []int{x.Least, x.Most, x.Least - 1, x.Most + 1} {
			for _, mask := range masks() {
				s, m := both(t, of(a(), mask, 1), of(b(), all, 2))
				want := ok
				if n < x.Least || n > x.Most {
					want = errArg
				}
				d := api.Deed{Kind: set, B: with(of(a(), x.Bit, 5), x.In, n)}
				must(t, "Do", m.do(d), want)
				must(t, "Do", buffer.Do(s, d), want)
				mustBeAlike(t, s, m)
			}
		}
	}
}

func TestDoOfASetThatLeavesWhatMayNotBe(t *testing.T) {
	s, m := both(t, of(a(), pos, 1), of(b(), all, 2))
	for _, id := range []api.ID{a(), b()} {
		for with := 1; with <= all; with++ {
			for _, x := range badNumbers(id, with) {
				mustDo(t, s, m, api.Deed{Kind: set, B: x})
			}
		}
	}
}

// TestDoOfASetOfOddMasks: what is no component stays in the Mask, and the entity may not be.
func TestDoOfASetOfOddMasks(t *testing.T) {
	s, m := both(t, of(a(), pos, 1), of(b(), all, 2))
	for _, id := range []api.ID{a(), b(), c()} {
		for _, mask := range oddNumbers() {
			x := of(id, all, 1)
			x.Mask = mask
			want := errArg
			if id == c() {
				want = errNone
			}
			must(t, "Do", buffer.Do(s, api.Deed{Kind: set, B: x}), want)
			mustBeAlike(t, s, m)
		}
	}
}

// TestDoOfADrop: of all components, from all.
func TestDoOfADrop(t *testing.T) {
	for _, mask := range masks() {
		for without := 0; without <= all; without++ {
			s, m := both(t, of(a(), mask, 1), of(b(), mask, 2), of(c(), mask&^without|pos, 3))
			d := api.Deed{Kind: drop, B: api.Bundle{ID: a()}, Mask: without}
			want, is := ok, less(of(a(), mask, 1), without)
			if without&pos != 0 {
				want, is = errArg, of(a(), mask, 1)
			}
			must(t, "do", m.do(d), want)
			must(t, "Do", buffer.Do(s, d), want)
			if got, _ := s.Get(a()); got != is {
				t.Errorf("%+v: %+v, want %+v", d, got, is)
			}
			mustBeAlike(t, s, m)
		}
	}
}

// TestDoOfADropOfOddMasks: a bit that is no component is none of the entity's, so that it loses nothing by it.
func TestDoOfADropOfOddMasks(t *testing.T) {
	for _, id := range []api.ID{a(), b(), c()} {
		for _, mask := range oddNumbers() {
			s, m := both(t, of(a(), pos, 1), of(b(), all, 2))
			mustDo(t, s, m, api.Deed{Kind: drop, B: api.Bundle{ID: id}, Mask: mask})
		}
	}
	s, _ := both(t, of(a(), all, 1))
	must(t, "Do", buffer.Do(s, api.Deed{Kind: drop, B: api.Bundle{ID: a()}, Mask: 32 | life}), ok)
	must(t, "Do", buffer.Do(s, api.Deed{Kind: drop, B: api.Bundle{ID: a()}, Mask: -1}), errArg)
	if got, _ := s.Get(a()); got != less(of(a(), all, 1), life) {
		t.Errorf("Get: %+v", got)
	}
}

// TestDoToOneThatIsNotThere: ErrNone, whatever the deed says beside the name, and of names that may not be, too.
func TestDoToOneThatIsNotThere(t *testing.T) {
	s, m := both(t, of(a(), pos, 1), of(b(), all, 2))
	for _, kind := range []int{remove, set, drop} {
		for _, id := range append(badNames(), c(), name(1, 0, 0), name(0, 0, 2), name(15, 15, maxGen-1)) {
			for mask := 0; mask <= all; mask++ {
				must(t, "Do", buffer.Do(s, api.Deed{Kind: kind, B: of(id, mask, 1), Mask: all - mask}), errNone)
			}
			for _, x := range badNumbers(id, pos|life) {
				must(t, "Do", buffer.Do(s, api.Deed{Kind: kind, B: x, Mask: -1}), errNone)
				must(t, "Do", buffer.Do(arch.New(), api.Deed{Kind: kind, B: x}), errNone)
			}
			mustBeAlike(t, s, m)
		}
	}
}

// TestDoLooksAtWhatItsKindTakes: the rest of a deed is nothing to it.
func TestDoLooksAtWhatItsKindTakes(t *testing.T) {
	for _, n := range append(oddNumbers(), 0, 1, 4, 30, 31) {
		s, m := both(t, of(a(), all, 1), of(b(), pos|left, 2), of(c(), pos, 3))
		mustDo(t, s, m, api.Deed{Kind: put, B: of(name(9, 9, 9), pos, 4), Mask: n})
		mustDo(t, s, m, api.Deed{Kind: set, B: of(b(), life, 4), Mask: n})
		wild := api.Bundle{ID: a(), Mask: n, X: n, Y: n, VX: n, VY: n, HP: n, Power: n, Left: n}
		mustDo(t, s, m, api.Deed{Kind: drop, B: wild, Mask: life | power})
		if got, _ := s.Get(a()); got != less(of(a(), all, 1), life|power) {
			t.Errorf("Get: %+v", got)
		}
		must(t, "Do", buffer.Do(s, api.Deed{Kind: remove, B: wild, Mask: n}), ok)
		m.remove(a())
		mustBeAlike(t, s, m)
	}
}

func TestDoOfNoKind(t *testing.T) {
	s, m := both(t, of(a(), all, 1))
	for _, kind := range append(oddNumbers(), 0, 5, 6, 7, 8, 9, 12) {
		for _, id := range append(badNames(), a(), b()) { // ahead of ErrNone
			must(t, "Do", buffer.Do(s, api.Deed{Kind: kind, B: of(id, pos, 1)}), errArg)
			must(t, "Do", buffer.Do(s, api.Deed{Kind: kind, B: api.Bundle{ID: id}, Mask: life}), errArg)
		}
	}
	mustBeAlike(t, s, m)
}

func TestDoWithANilStore(t *testing.T) {
	for _, kind := range append(oddNumbers(), 0, put, remove, set, drop, 5) {
		for _, mask := range []int{0, pos, life, all} {
			must(t, "Do", buffer.Do(nil, api.Deed{Kind: kind, B: of(a(), mask, 1), Mask: mask}), errArg)
		}
	}
}

// TestDoWithAStoreThatNewDidNotMake: the zero one is one without entities.
func TestDoWithAStoreThatNewDidNotMake(t *testing.T) {
	for _, kind := range []int{remove, set, drop} {
		must(t, "Do", buffer.Do(new(arch.Store), api.Deed{Kind: kind, B: of(a(), pos, 1)}), errNone)
	}
	s := new(arch.Store)
	must(t, "Do", buffer.Do(s, api.Deed{Kind: put, B: of(a(), pos, 1)}), ok)
	if got, there := s.Get(a()); got != of(a(), pos, 1) || !there {
		t.Errorf("Get: %+v, %v", got, there)
	}
}

// 13.2

// oneOfEach is a deed of each kind, and one that is of none.
func oneOfEach() []api.Deed {
	return []api.Deed{
		{Kind: put, B: of(a(), pos, 1)},
		{Kind: set, B: of(a(), life|vel, 2)},
		{Kind: 9, B: of(b(), all, 3), Mask: -1},
		{Kind: drop, B: api.Bundle{ID: a()}, Mask: vel},
		{Kind: remove, B: api.Bundle{ID: a()}},
	}
}

func TestNewHasNothing(t *testing.T) {
	x := buffer.New()
	if x == nil {
		t.Fatal("New: nil")
	}
	mustWait(t, x)
	s, m := both(t, of(a(), pos, 1))
	mustSay(t, "Flush", x.Flush(s))
	mustSay(t, "Flush", x.Flush(nil))
	mustWait(t, x)
	mustBeAlike(t, s, m)
}

// TestAddLaysBehindTheOthers: in whatever portions.
func TestAddLaysBehindTheOthers(t *testing.T) {
	deeds := oneOfEach()
	for first := 0; first <= len(deeds); first++ {
		for second := first; second <= len(deeds); second++ {
			x := buffer.New()
			must(t, "Add", x.Add(deeds[:first]...), ok)
			mustWait(t, x, deeds[:first]...)
			must(t, "Add", x.Add(), ok)
			must(t, "Add", x.Add(deeds[first:second]...), ok)
			mustWait(t, x, deeds[:second]...)
			must(t, "Add", x.Add(deeds[second:]...), ok)
			must(t, "Add", x.Add(nil...), ok)
			mustWait(t, x, deeds...)
		}
	}
}

// TestAddOfAnything: it waits as it is, and is only answered when it is done.
func TestAddOfAnything(t *testing.T) {
	var deeds []api.Deed
	x := buffer.New()
	for _, n := range append(oddNumbers(), 0, 5) {
		l := []api.Deed{{Kind: n}, {Kind: put, B: api.Bundle{Mask: n}}, {Kind: drop, Mask: n}, {Kind: set, B: api.Bundle{ID: name(n, n, n), HP: n}}}
		deeds = append(deeds, l...)
		must(t, "Add", x.Add(l...), ok)
	}
	must(t, "Add", x.Add(deeds[0], deeds[0], deeds[0]), ok) // the same one again
	deeds = append(deeds, deeds[0], deeds[0], deeds[0])
	mustWait(t, x, deeds...)
	s, m := both(t)
	mustSay(t, "Flush", x.Flush(s), m.doAll(deeds)...)
	mustBeAlike(t, s, m)
}

func TestFlush(t *testing.T) {
	x := bufferOf(t, oneOfEach()...)
	s, m := both(t, of(b(), pos, 4))
	mustSay(t, "Flush", x.Flush(s), ok, ok, errArg, ok, ok)
	mustBeAlike(t, s, m)
	mustWait(t, x)
	mustSay(t, "Flush", x.Flush(s)) // nothing waits any more
	mustBeAlike(t, s, m)
}

// TestFlushGoesOnBehindAnError: and what is said stands in the order of the deeds.
func TestFlushGoesOnBehindAnError(t *testing.T) {
	right := api.Deed{Kind: put, B: of(a(), pos, 1)}
	wrong := []api.Deed{{Kind: 0}, {Kind: remove, B: api.Bundle{ID: c()}}, {Kind: put, B: of(b(), all, 1)}, {Kind: put}, {Kind: drop, B: api.Bundle{ID: b()}, Mask: pos}}
	said := []api.Errno{errArg, errNone, errThere, errArg, errArg}
	for at := 0; at <= len(wrong); at++ {
		s, m := both(t, of(b(), all, 2))
		x := bufferOf(t, slices.Insert(slices.Clone(wrong), at, right)...)
		mustSay(t, "Flush", x.Flush(s), slices.Insert(slices.Clone(said), at, ok)...)
		m.put(of(a(), pos, 1))
		mustBeAlike(t, s, m)
		mustWait(t, x)
	}
}

// TestFlushHangsOnTheDeedsAhead: each is done with what those ahead of it left.
func TestFlushHangsOnTheDeedsAhead(t *testing.T) {
	begins, ends := api.Deed{Kind: put, B: of(a(), pos, 1)}, api.Deed{Kind: remove, B: api.Bundle{ID: a()}}
	grows := api.Deed{Kind: set, B: of(a(), life, 2)}
	for _, l := range [][]api.Deed{
		{begins, ends, begins, ends},
		{ends, begins, begins, ends, ends},
		{grows, begins, grows, ends, grows},
		{begins, grows, ends, begins},
		{begins, grows, begins, grows},
	} {
		s, m := both(t)
		mustSay(t, "Flush", bufferOf(t, l...).Flush(s), m.doAll(l)...)
		mustBeAlike(t, s, m)
	}
}

// TestFlushWithANilStore: what Do says of each is ErrArg, and it waits no more.
func TestFlushWithANilStore(t *testing.T) {
	x := bufferOf(t, oneOfEach()...)
	mustSay(t, "Flush", x.Flush(nil), errArg, errArg, errArg, errArg, errArg)
	mustWait(t, x)
	s, m := both(t)
	mustSay(t, "Flush", x.Flush(s))
	mustBeAlike(t, s, m)
}

// TestFlushInTurn: into several stores, with deeds added between.
func TestFlushInTurn(t *testing.T) {
	x := buffer.New()
	for i := range 3 {
		s, m := both(t)
		l := []api.Deed{{Kind: put, B: of(name(i, 0, 0), pos, i)}, {Kind: set, B: of(name(0, 0, 0), life, i)}}
		must(t, "Add", x.Add(l...), ok)
		mustSay(t, "Flush", x.Flush(s), m.doAll(l)...)
		mustBeAlike(t, s, m)
		mustWait(t, x)
	}
}

func TestOfANilBuffer(t *testing.T) {
	var x *buffer.Buffer
	s, m := both(t, of(a(), pos, 1))
	must(t, "Add", x.Add(oneOfEach()...), errArg)
	must(t, "Add", x.Add(), errArg)
	mustWait(t, x)
	mustSay(t, "Flush", x.Flush(s))
	mustSay(t, "Flush", x.Flush(nil))
	mustBeAlike(t, s, m)
}

// TestABufferThatNewDidNotMake: in the zero one nothing waits.
func TestABufferThatNewDidNotMake(t *testing.T) {
	x := new(buffer.Buffer)
	mustWait(t, x)
	mustSay(t, "Flush", x.Flush(arch.New()))
	must(t, "Add", x.Add(oneOfEach()...), ok)
	mustWait(t, x, oneOfEach()...)
	mustSay(t, "Flush", x.Flush(arch.New()), ok, ok, errArg, ok, ok)
	mustWait(t, x)
}

// 13.3

func TestNothingIsChangedAheadOfFlush(t *testing.T) {
	s, m := both(t, of(a(), pos, 1), of(b(), all, 2))
	x := buffer.New()
	for range 3 {
		must(t, "Add", x.Add(oneOfEach()...), ok)
		x.Len()
		x.List()
		mustBeAlike(t, s, m)
	}
	mustSay(t, "Flush", x.Flush(s), m.doAll(slices.Concat(oneOfEach(), oneOfEach(), oneOfEach()))...)
	mustBeAlike(t, s, m)
}

// TestToFlushTwice: is to flush once what waited in both.
func TestToFlushTwice(t *testing.T) {
	seed := sample.Chance(3)
	for range 300 {
		var l []api.Deed
		for range seed.Below(12) {
			l = append(l, anyDeed(&seed, 4))
		}
		begin := []api.Bundle{of(a(), pos, 1), of(name(1, 0, 0), all, 2)}
		once, _ := both(t, begin...)
		want := bufferOf(t, l...).Flush(once)
		for at := 0; at <= len(l); at++ {
			twice, m := both(t, begin...)
			x := bufferOf(t, l[:at]...)
			said := x.Flush(twice)
			must(t, "Add", x.Add(l[at:]...), ok)
			mustSay(t, "both", append(said, x.Flush(twice)...), want...)
			m.doAll(l)
			mustBeAlike(t, twice, m)
			mustBeAlike(t, once, m)
		}
	}
}

// Scripts

// everyDeed is those of two names.
func everyDeed() []api.Deed {
	var l []api.Deed
	for i, id := range []api.ID{a(), b()} {
		l = append(l,
			api.Deed{Kind: put, B: of(id, pos, 10+i)},
			api.Deed{Kind: put, B: of(id, pos|life, 20+i)},
			api.Deed{Kind: put, B: of(id, life, 30+i)},
			api.Deed{Kind: remove, B: api.Bundle{ID: id}},
			api.Deed{Kind: set, B: of(id, pos, 40+i)},
			api.Deed{Kind: set, B: of(id, life, 50+i)},
			api.Deed{Kind: drop, B: api.Bundle{ID: id}, Mask: life},
			api.Deed{Kind: drop, B: api.Bundle{ID: id}, Mask: pos},
		)
	}
	return l
}

// TestShortScripts: all of them.
func TestShortScripts(t *testing.T) {
	for _, first := range everyDeed() {
		for _, second := range everyDeed() {
			for _, third := range everyDeed() {
				l := []api.Deed{first, second, third}
				s, m := both(t, of(c(), pos, 1), of(a(), pos, 2))
				mustSay(t, "Flush", bufferOf(t, l...).Flush(s), m.doAll(l)...)
				mustBeAlike(t, s, m)
			}
		}
	}
}

// TestLongScripts: what waits is asked behind each step.
func TestLongScripts(t *testing.T) {
	for seed := sample.Chance(1); seed < 6; seed++ {
		own := seed
		s, m := both(t)
		x := buffer.New()
		var waits []api.Deed
		for range 1500 {
			switch own.Below(8) {
			case 0:
				mustSay(t, "Flush", x.Flush(s), m.doAll(waits)...)
				waits = nil
			case 1:
				mustDo(t, s, m, anyDeed(&own, 30))
			default:
				d := anyDeed(&own, 30)
				must(t, "Add", x.Add(d), ok)
				waits = append(waits, d)
			}
			mustWait(t, x, waits...)
			mustBeAlike(t, s, m)
		}
	}
}

// TestMany: thousands wait, and are done.
func TestMany(t *testing.T) {
	seed := sample.Chance(9)
	var l []api.Deed
	for range 20000 {
		l = append(l, anyDeed(&seed, 200))
	}
	x := bufferOf(t, l...)
	mustWait(t, x, l...)
	s, m := both(t)
	mustSay(t, "Flush", x.Flush(s), m.doAll(l)...)
	mustBeAlike(t, s, m)
}

// The rules

// TestWhatIsHandedInIsLeftAlone: R4.
func TestWhatIsHandedInIsLeftAlone(t *testing.T) {
	long := append(oneOfEach(), oneOfEach()...)
	l := long[:4]
	x := bufferOf(t, l...)
	must(t, "Add", x.Add(api.Deed{Kind: 7}), ok)
	x.Flush(arch.New())
	must(t, "Add", x.Add(l...), ok)
	must(t, "Add", x.Add(api.Deed{Kind: 8}), ok)
	if !slices.Equal(long, append(oneOfEach(), oneOfEach()...)) {
		t.Errorf("the list is another one: %+v", long)
	}
	clear(long)
	mustWait(t, x, append(oneOfEach()[:4], api.Deed{Kind: 8})...)
}

// TestWhatIsAnsweredIsTheAskersOwn: R4.
func TestWhatIsAnsweredIsTheAskersOwn(t *testing.T) {
	x := bufferOf(t, oneOfEach()...)
	one, other := x.List(), x.List()
	clear(one)
	_ = append(one[:2], api.Deed{Kind: 7})
	_ = append(one, api.Deed{Kind: 7})
	mustWait(t, x, oneOfEach()...)
	if !slices.Equal(other, oneOfEach()) {
		t.Errorf("behind a change of another answer: %+v", other)
	}
	said := x.Flush(arch.New())
	if !slices.Equal(other, oneOfEach()) {
		t.Errorf("behind a Flush: %+v", other)
	}
	must(t, "Add", x.Add(api.Deed{Kind: 7}, api.Deed{Kind: 8}), ok)
	if !slices.Equal(other, oneOfEach()) {
		t.Errorf("behind an Add: %+v", other)
	}
	again := x.Flush(arch.New())
	mustSay(t, "Flush", said, ok, ok, errArg, ok, ok)
	mustSay(t, "Flush", again, errArg, errArg)
}

// TestBuffersGoTheirOwnWays: R5.
func TestBuffersGoTheirOwnWays(t *testing.T) {
	one, other := bufferOf(t, oneOfEach()...), bufferOf(t, oneOfEach()[:2]...)
	one.Flush(arch.New())
	mustWait(t, one)
	mustWait(t, other, oneOfEach()[:2]...)
	must(t, "Add", one.Add(api.Deed{Kind: 7}), ok)
	mustWait(t, other, oneOfEach()[:2]...)
	mustSay(t, "Flush", other.Flush(arch.New()), ok, ok)
	mustWait(t, one, api.Deed{Kind: 7})
}

// TestAnErrorChangesNothing: R3.
func TestAnErrorChangesNothing(t *testing.T) {
	seed := sample.Chance(11)
	s, m := both(t, of(a(), pos, 1), of(b(), all, 2), of(c(), pos, 3))
	for range 3000 {
		d := anyDeed(&seed, 6)
		was := slices.Collect(s.All())
		if e := buffer.Do(s, d); e != ok && !slices.Equal(slices.Collect(s.All()), was) {
			t.Errorf("Do(%+v): %d, and changed something", d, e)
		}
		m.do(d)
		mustBeAlike(t, s, m)
	}
}

// TestExample is the chapter's.
func TestExample(t *testing.T) {
	x := buffer.New()
	x.Add(api.Deed{Kind: api.DeedPut, B: of(a(), pos, 1)},
		api.Deed{Kind: api.DeedSet, B: api.Bundle{ID: a(), Mask: api.Life, HP: 9}},
		api.Deed{Kind: api.DeedRemove, B: api.Bundle{ID: b()}})
	s := arch.New()
	mustSay(t, "Flush", x.Flush(s), api.OK, api.OK, api.ErrNone)
	x.Add(api.Deed{Kind: api.DeedDrop, B: api.Bundle{ID: a()}, Mask: api.Pos})
	mustSay(t, "Flush", x.Flush(s), api.ErrArg)
}

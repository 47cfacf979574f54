package desk_test

import (
	"math"
	"slices"
	"testing"

	"hedgerow/api"
	"hedgerow/desk"
	"hedgerow/sample"
	"hedgerow/zones"
)

// 16.1

func TestAFreshDesk(t *testing.T) {
	for _, w := range append(worlds(), small(), tiny()) {
		d := deskOf(t, w)
		mustStand(t, d, 0, false)
		mustWait(t, d)
		mustLive(t, d)
		mustLapse(t, d, 0)
		mustNotClose(t, d)
		mustBeAlike(t, d, newModel(w))
		mustEndAlike(t, d, newModel(w), w)
	}
}

// TestNewRefuses: what zones.New refuses, by its error.
func TestNewRefuses(t *testing.T) {
	for _, n := range append(allNumbers(), 15, 16, 17, 64, 65, 255, 256, 257, 1<<20, 1<<20+1) {
		for at := range 7 {
			w := small()
			*[]*int{&w.Cols, &w.Rows, &w.Side, &w.Radius, &w.Speed, &w.Ids, &w.Queue}[at] = n
			_, want := zones.New(w)
			if d, e := desk.New(w); e != want || (d == nil) != (want != api.OK) {
				t.Errorf("New(%+v): %v, %d; want %d", w, d != nil, e, want)
			}
		}
	}
	if d, e := desk.New(api.Config{}); d != nil || e != api.ErrArg {
		t.Errorf("New of nothing: %v, %d", d != nil, e)
	}
}

// TestTheWorldIsPromoted: a desk has its map, and this one's config.
func TestTheWorldIsPromoted(t *testing.T) {
	for _, w := range worlds() {
		if d := deskOf(t, w); d.Config != w || d.Queue != w.Queue || d.Count() != count(w) || d.Of(w.Side-1, 0) != 0 {
			t.Errorf("%+v: %+v", w, d.Map)
		}
	}
}

// TestAsManyNamesAsTheWorldHas: of each zone, one for each index, and each has its own.
func TestAsManyNamesAsTheWorldHas(t *testing.T) {
	for n := range 16 {
		w := api.Config{Cols: n%4 + 1, Rows: n/4 + 1, Side: 256, Ids: n + 1, Queue: 64}
		d := deskOf(t, w)
		must(t, "Reserve", d.Reserve(count(w), 0), api.ErrArg)
		must(t, "Reserve", d.Reserve(0, w.Ids), api.ErrArg)
		var want []api.ID
		for k := range count(w) {
			for i := range w.Ids {
				id := name(k, i, 0)
				mustLook(t, d, in(w, k), named(in(w, k), id), true)
				letIn(t, d, in(w, k))
				mustEnd(t, d)
				want = append(want, id)
			}
			mustNotLook(t, d, in(w, k), api.ErrBusy)
		}
		mustLive(t, d, want...)
	}
}

// TestLookAtOneThatBegins: at all ends of all zones, and beyond the world.
func TestLookAtOneThatBegins(t *testing.T) {
	for _, w := range append(worlds(), small()) {
		d := deskOf(t, w)
		ends := []int{-api.Max, -w.Side, -1, w.Cols * w.Side, w.Rows * w.Side, api.Max}
		for k := range max(w.Cols, w.Rows) {
			ends = append(ends, k*w.Side, k*w.Side+1, (k+1)*w.Side-1)
		}
		for _, x := range ends {
			for _, y := range ends {
				c := at(x, y)
				if zone := zoneOf(w, c.B); zone >= 0 {
					mustLook(t, d, c, named(c, name(zone, 0, 0)), true)
				} else {
					mustNotLook(t, d, c, api.ErrRange)
				}
			}
		}
	}
}

// TestLookLeavesTheRestAsItIs: of whoever begins, and of all other commands.
func TestLookLeavesTheRestAsItIs(t *testing.T) {
	d := deskOf(t, small())
	mustReserve(t, d, 0, 0, 1)
	for mask := pos; mask <= all; mask += 2 {
		c := begin(of(name(0, 0, 0), mask, 3))
		mustLook(t, d, c, c, false) // its name is the zero one, too
	}
	other := letIn(t, d, at(256, 0)).B.ID
	for mask := 2; mask <= all; mask += 2 {
		b := of(name(0, 0, 0), mask, 3)
		mustLook(t, d, give(other, b), give(other, b), false)
		mustLook(t, d, take(other, mask), take(other, mask), false)
	}
	mustLook(t, d, end(other), end(other), false)
}

// TestLookChangesNothing: however often.
func TestLookChangesNothing(t *testing.T) {
	w := small()
	d, m := deskOf(t, w), newModel(w)
	for _, q := range []asked{d, m} {
		letIn(t, q, at(0, 0))
	}
	for range 20 {
		mustLook(t, d, at(0, 0), named(at(0, 0), name(0, 1, 0)), true)
		mustLook(t, d, at(256, 0), named(at(256, 0), name(1, 0, 0)), true)
		mustLook(t, d, end(name(0, 0, 0)), end(name(0, 0, 0)), false)
		mustNotLook(t, d, end(name(0, 1, 0)), api.ErrStale)
		mustNotLook(t, d, at(-1, 0), api.ErrRange)
	}
	mustBeAlike(t, d, m)
	mustEndAlike(t, d, m, w)
}

// TestLookAsksForABlock: whenever the generation that comes next is the bound.
func TestLookAsksForABlock(t *testing.T) {
	d := deskOf(t, tiny())
	for gen := range 3*block + 1 {
		want := named(at(300, 0), name(1, 0, gen))
		if gen%block == 0 {
			mustLook(t, d, at(300, 0), want, true)
			mustNotAdmit(t, d, want, api.ErrStale)
			mustReserve(t, d, 1, 0, 1)
		}
		mustLook(t, d, at(300, 0), want, false)
		mustAdmit(t, d, want)
		mustNotLook(t, d, at(300, 0), api.ErrBusy)
		mustEnd(t, d, want.B.ID)
	}
}

// TestLookNamesTheIndexThatComesNext: those that were taken back come behind the others, in the order in which they were.
func TestLookNamesTheIndexThatComesNext(t *testing.T) {
	w := small()
	w.Ids = 4
	d := deskOf(t, w)
	var l []api.ID
	for range 3 {
		l = append(l, letIn(t, d, at(0, 0)).B.ID)
	}
	mustEnd(t, d, l[2], l[0]) // 3 2 0
	for _, want := range []told{{cmd: named(at(1, 1), name(0, 3, 0)), must: true}, {cmd: named(at(1, 1), name(0, 2, 1))}, {cmd: named(at(1, 1), name(0, 0, 1))}} {
		mustLook(t, d, at(1, 1), want.cmd, want.must)
		letIn(t, d, at(1, 1))
	}
	mustNotLook(t, d, at(1, 1), api.ErrBusy)
	mustLook(t, d, at(1, 256), named(at(1, 256), name(2, 0, 0)), true)
}

// badCommands is such as may not be, for a name that is somebody's.
func badCommands(id api.ID) []api.Cmd {
	one := of(name(0, 0, 0), pos|life, 3)
	l := []api.Cmd{
		{}, {Kind: spawn, ID: id, B: one}, {Kind: spawn, B: one, Mask: 2}, begin(sample.Less(one, pos)), begin(api.Bundle{}),
		{Kind: despawn, ID: id, B: one}, {Kind: despawn, ID: id, Mask: 2}, give(id, one), give(id, api.Bundle{}), take(id, pos), take(id, 0),
	}
	for _, mask := range oddNumbers() {
		b := one
		b.Mask = mask
		l = append(l, begin(b), give(id, b), take(id, mask), api.Cmd{Kind: mask, ID: id}, api.Cmd{Kind: mask, B: one})
	}
	for _, b := range append(sample.BadNumbers(name(0, 0, 0), pos|life), sample.BadNumbers(name(0, 0, 0), life)...) {
		l = append(l, begin(b), give(id, b))
	}
	for _, wrong := range badNames() {
		l = append(l, begin(of(wrong, pos, 3)), end(wrong), heal(wrong, 3), still(wrong), give(id, of(wrong, life, 3)))
	}
	return l
}

// TestWhatMayNotBeIsRefused: by Look and by Admit.
func TestWhatMayNotBeIsRefused(t *testing.T) {
	w := small()
	d, m := deskOf(t, w), newModel(w)
	id := name(0, 0, 1)
	for _, q := range []asked{d, m} {
		mustReserve(t, q, 0, 0, 1)
		mustAdmit(t, q, named(at(0, 0), id))
	}
	for _, c := range badCommands(id) {
		mustNotLook(t, d, c, api.ErrArg)
		mustNotAdmit(t, d, c, api.ErrArg)
	}
	mustBeAlike(t, d, m)
	mustEndAlike(t, d, m, w)
}

// TestLookAtOneThatBeginsWithAName: nobody from outside names one, not even as Look would.
func TestLookAtOneThatBeginsWithAName(t *testing.T) {
	d := deskOf(t, small())
	mustReserve(t, d, 1, 0, 1)
	for _, id := range append(names(), name(1, 0, 1), name(2, 0, 0), name(15, 0, 0)) {
		if id != name(0, 0, 0) {
			mustNotLook(t, d, named(at(256, 0), id), api.ErrArg)
		}
	}
}

// nobodys is names that nobody has on a desk of the small world, in whose zone 1 the one of id begins.
func nobodys(id api.ID) []api.ID {
	return []api.ID{name(1, 0, 0), name(1, 0, 2), name(1, 0, 7), name(1, 0, maxGen-1), name(1, 1, id.Gen), name(0, 0, id.Gen), name(2, 0, id.Gen), name(1, 2, id.Gen), name(1, 15, id.Gen), name(4, 0, id.Gen), name(15, 0, id.Gen)}
}

// TestCommandsForNobody: a name that was taken back, one that was not given yet, and such as no zone has.
func TestCommandsForNobody(t *testing.T) {
	d := deskOf(t, small())
	mustNotLook(t, d, end(name(0, 0, 0)), api.ErrStale)
	mustReserve(t, d, 1, 0, 1)
	mustNotLook(t, d, end(name(1, 0, 0)), api.ErrStale) // it is set aside, and nobody's
	mustAdmit(t, d, named(at(256, 0), name(1, 0, 0)))
	mustLook(t, d, end(name(1, 0, 0)), end(name(1, 0, 0)), false) // also while it waits
	mustEnd(t, d, name(1, 0, 0))
	id := name(1, 0, 1)
	mustAdmit(t, d, named(at(256, 0), id))
	for _, other := range nobodys(id) {
		for _, c := range commands(end(other), heal(other, 3), still(other)) {
			mustNotLook(t, d, c, api.ErrStale)
			mustNotAdmit(t, d, c, api.ErrStale)
		}
	}
	mustLook(t, d, heal(id, 3), heal(id, 3), false)
	mustEnd(t, d, id)
	mustNotLook(t, d, heal(id, 3), api.ErrStale)
}

// TestLookBehindAnEnd: while it waits nothing comes behind it for its name; for others it does.
func TestLookBehindAnEnd(t *testing.T) {
	d := deskOf(t, small())
	id, other, third := letIn(t, d, at(0, 0)).B.ID, letIn(t, d, at(0, 0)).B.ID, letIn(t, d, at(256, 0)).B.ID
	mustEnd(t, d)
	letIn(t, d, heal(id, 3))
	letIn(t, d, still(id))
	letIn(t, d, heal(id, 4)) // these end nobody
	letIn(t, d, end(id))
	mustOpen(t, d, 2, heal(id, 3), still(id), heal(id, 4), end(id))
	mustLook(t, d, end(id), end(id), false) // it waits no more
	letIn(t, d, end(other))
	letIn(t, d, heal(third, 3))
	for _, c := range commands(end(other), heal(other, 3), still(other)) {
		mustNotLook(t, d, c, api.ErrUsed)
	}
	for _, c := range commands(end(id), heal(id, 3), still(id), end(third), heal(third, 3)) {
		mustLook(t, d, c, c, false)
	}
	mustLook(t, d, at(256, 0), named(at(256, 0), name(1, 1, 0)), true)
}

// TestAFullDesk: of each Queue; Open makes room.
func TestAFullDesk(t *testing.T) {
	for queue := 1; queue <= 64; queue++ {
		w := small()
		w.Queue = queue
		d := deskOf(t, w)
		id := letIn(t, d, at(0, 0)).B.ID
		want := commands(named(at(0, 0), id))
		for n := 1; n < queue; n++ {
			mustLook(t, d, at(0, 0), named(at(0, 0), name(0, 1, 0)), true)
			want = append(want, letIn(t, d, heal(id, n)))
		}
		mustReserve(t, d, 0, 1, 1)
		for _, c := range commands(at(0, 0), at(256, 0), end(id), heal(id, 99), still(id)) {
			mustNotLook(t, d, c, api.ErrFull)
			mustNotAdmit(t, d, c, api.ErrFull)
		}
		mustNotAdmit(t, d, named(at(0, 0), name(0, 1, 0)), api.ErrFull)
		mustLive(t, d, id)
		mustOpen(t, d, 1, want...)
		mustLook(t, d, at(0, 0), named(at(0, 0), name(0, 1, 0)), false)
		letIn(t, d, end(id))
	}
}

// TestABusyZone: and no other one.
func TestABusyZone(t *testing.T) {
	w := small()
	d := deskOf(t, w)
	for range w.Ids {
		letIn(t, d, in(w, 2))
	}
	for _, c := range commands(at(0, 256), at(255, 511), in(w, 2)) {
		mustNotLook(t, d, c, api.ErrBusy)
	}
	for _, zone := range []int{0, 1, 3} {
		mustLook(t, d, in(w, zone), named(in(w, zone), name(zone, 0, 0)), true)
	}
	mustLook(t, d, heal(name(2, 0, 0), 3), heal(name(2, 0, 0), 3), false)
}

// TestTheFirstErrorOfLook: of two that apply.
func TestTheFirstErrorOfLook(t *testing.T) {
	w := tiny()
	d := deskOf(t, w)
	mustNotLook(t, d, named(at(-1, 0), name(0, 0, 1)), api.ErrArg) // ahead of ErrRange
	mustNotLook(t, d, api.Cmd{Kind: despawn, Mask: 1}, api.ErrArg) // ahead of ErrStale

	id := letIn(t, d, in(w, 0)).B.ID
	mustEnd(t, d)
	letIn(t, d, heal(id, 3))
	letIn(t, d, end(id))
	mustNotLook(t, d, heal(id, 3), api.ErrUsed) // ahead of ErrFull
	mustNotLook(t, d, give(id, api.Bundle{}), api.ErrArg)
	mustNotLook(t, d, heal(name(1, 0, 0), 3), api.ErrStale) // ahead of ErrFull
	mustNotLook(t, d, at(-1, 0), api.ErrRange)
	mustNotLook(t, d, in(w, 0), api.ErrFull) // ahead of ErrBusy
	mustNotLook(t, d, named(in(w, 0), name(0, 0, 1)), api.ErrArg)
	mustOpen(t, d, 2, heal(id, 3), end(id))
	letIn(t, d, end(id))
	mustNotLook(t, d, in(w, 0), api.ErrBusy)
	mustNotLook(t, d, named(in(w, 0), name(1, 0, 0)), api.ErrArg) // ahead of ErrBusy
	mustClose(t, d, 1, id)                                        // what ends it waits still
	mustNotLook(t, d, heal(id, 3), api.ErrStale)                  // ahead of ErrUsed
	mustLook(t, d, in(w, 0), named(in(w, 0), name(0, 0, 1)), false)
}

// wear brings an index to its last generation, which is nobody's.
func wear(t *testing.T, d asked, c api.Cmd) {
	t.Helper()
	mustReserve(t, d, c.B.ID.Shard, c.B.ID.Index, maxGen/block)
	c.B.ID.Gen = maxGen - 2
	mustAdmit(t, d, c)
	mustEnd(t, d, c.B.ID)
}

// TestAWornIndex: its last name is maxGen - 1; Look passes it over then.
func TestAWornIndex(t *testing.T) {
	w := tiny()
	d := deskOf(t, w)
	wear(t, d, in(w, 0))
	must(t, "Reserve", d.Reserve(0, 0), api.ErrRange)
	last := named(in(w, 0), name(0, 0, maxGen-1))
	mustLook(t, d, in(w, 0), last, false)
	letIn(t, d, in(w, 0))
	mustEnd(t, d, last.B.ID)
	mustNotLook(t, d, in(w, 0), api.ErrBusy)
	mustNotAdmit(t, d, last, api.ErrState)
	must(t, "Reserve", d.Reserve(0, 0), api.ErrRange)
	mustLive(t, d)
	mustLook(t, d, in(w, 1), named(in(w, 1), name(1, 0, 0)), true)

	d = deskOf(t, small())
	wear(t, d, at(0, 0))
	mustLapse(t, d, 1) // by that it is worn, too
	mustLook(t, d, at(0, 0), named(at(0, 0), name(0, 1, 0)), true)
}

// 16.2

// TestReserve: each sets a block of an index's generations aside, and of no other one's.
func TestReserve(t *testing.T) {
	w := small()
	for often := range 4 {
		d := deskOf(t, w)
		mustReserve(t, d, 3, 1, often)
		mustNotAdmit(t, d, named(in(w, 3), name(3, 1, often*block)), api.ErrStale)
		mustNotAdmit(t, d, named(in(w, 3), name(3, 0, 0)), api.ErrStale)
		mustNotAdmit(t, d, named(in(w, 2), name(2, 1, 0)), api.ErrStale)
		mustLook(t, d, in(w, 3), named(in(w, 3), name(3, 0, 0)), true)
		if often > 0 {
			mustAdmit(t, d, named(in(w, 3), name(3, 1, often*block-1)))
		}
	}
}

// TestReserveRefuses: what the pool does.
func TestReserveRefuses(t *testing.T) {
	w := small()
	d, m := deskOf(t, w), newModel(w)
	for _, n := range append(oddNumbers(), 4, 5, 16) {
		must(t, "Reserve", d.Reserve(n, 0), api.ErrArg)
		must(t, "Reserve", d.Reserve(n, n), api.ErrArg)
		must(t, "Reserve", d.Reserve(3, n), api.ErrArg)
	}
	must(t, "Reserve", d.Reserve(0, w.Ids), api.ErrArg)
	mustLapse(t, d, 0)
	mustEndAlike(t, d, m, w)
}

// TestAdmitWaitsBehindTheOthers: of all kinds, also while a tick is open.
func TestAdmitWaitsBehindTheOthers(t *testing.T) {
	w := small()
	w.Queue = 6
	d := deskOf(t, w)
	id := name(1, 1, 5)
	mustReserve(t, d, 1, 1, 1)
	want := commands(named(at(300, 3), id), heal(id, 3), still(id), heal(id, 3), end(id), end(id))
	for n := range want {
		mustAdmit(t, d, want[n])
		mustWait(t, d, want[:n+1]...)
		mustLive(t, d, id)
	}
	mustOpen(t, d, 1, want...)
	mustAdmit(t, d, heal(id, 4), still(id))
	mustWait(t, d, heal(id, 4), still(id))
}

// TestAdmitAsksNotWhetherAnEndWaits: Look does.
func TestAdmitAsksNotWhetherAnEndWaits(t *testing.T) {
	d := deskOf(t, small())
	id := letIn(t, d, at(0, 0)).B.ID
	mustAdmit(t, d, end(id), heal(id, 3), end(id))
	mustWait(t, d, named(at(0, 0), id), end(id), heal(id, 3), end(id))
}

// TestAdmitOfAnyFreeIndex: not only of the one that Look would tell, and of any generation that is set aside.
func TestAdmitOfAnyFreeIndex(t *testing.T) {
	w := small()
	for gen := range 2 * block {
		d := deskOf(t, w)
		mustReserve(t, d, 0, 1, 2)
		c := named(at(0, 0), name(0, 1, gen))
		mustAdmit(t, d, c)
		mustLive(t, d, c.B.ID)
		mustLook(t, d, at(0, 0), at(0, 0), true) // the index 0 comes next, as it did
		mustEnd(t, d, c.B.ID)
		for g := range gen + 1 {
			mustNotAdmit(t, d, named(at(0, 0), name(0, 1, g)), api.ErrStale) // passed over
		}
		letIn(t, d, at(0, 0))
		mustLook(t, d, at(0, 0), named(at(0, 0), name(0, 1, gen+1)), gen+1 == 2*block)
	}
}

// TestAdmitOfOneThatStandsElsewhere: its point lies in the zone of its name.
func TestAdmitOfOneThatStandsElsewhere(t *testing.T) {
	w := small()
	d := deskOf(t, w)
	for k := range count(w) {
		mustReserve(t, d, k, 0, 1)
	}
	for k := range 16 {
		gen := 0
		for _, c := range commands(at(0, 0), at(255, 255), at(256, 0), at(0, 256), at(511, 511), at(256, 255), at(-1, 0), at(0, 512), at(512, 0), at(api.Max, -api.Max)) {
			c.B.ID = name(k, 0, gen)
			if zoneOf(w, c.B) != k {
				mustNotAdmit(t, d, c, api.ErrRange)
				continue
			}
			mustAdmit(t, d, c)
			mustEnd(t, d, c.B.ID)
			gen++
		}
	}
}

// TestAdmitTellsWhyANameIsNotTaken: the pool's errors.
func TestAdmitTellsWhyANameIsNotTaken(t *testing.T) {
	w := small()
	d := deskOf(t, w)
	mustReserve(t, d, 0, 0, 1)
	mustNotAdmit(t, d, named(at(0, 0), name(0, w.Ids, 0)), api.ErrArg) // no such index
	mustNotAdmit(t, d, named(at(0, 0), name(0, 15, 0)), api.ErrArg)
	mustNotAdmit(t, d, named(at(0, 0), name(0, 1, 0)), api.ErrStale) // nothing is set aside
	mustNotAdmit(t, d, named(at(0, 0), name(0, 0, block)), api.ErrStale)
	mustNotAdmit(t, d, named(at(0, 0), name(0, 0, maxGen-1)), api.ErrStale)
	mustAdmit(t, d, named(at(0, 0), name(0, 0, 3)))
	for gen := range block + 2 {
		mustNotAdmit(t, d, named(at(0, 0), name(0, 0, gen)), api.ErrState) // it is somebody's
	}
	mustEnd(t, d, name(0, 0, 3))
	for gen := range 4 {
		mustNotAdmit(t, d, named(at(0, 0), name(0, 0, gen)), api.ErrStale) // they were given, or passed over
	}
	mustAdmit(t, d, named(at(0, 0), name(0, 0, 4)))
	mustLive(t, d, name(0, 0, 4))
}

// TestTheFirstErrorOfAdmit: of two that apply.
func TestTheFirstErrorOfAdmit(t *testing.T) {
	w := tiny()
	d := deskOf(t, w)
	elsewhere := named(in(w, 0), name(1, 0, 0))
	mustNotAdmit(t, d, named(in(w, 0), name(1, 1, 0)), api.ErrRange) // ahead of Take's errors
	mustNotAdmit(t, d, elsewhere, api.ErrRange)
	id := letIn(t, d, in(w, 0)).B.ID
	letIn(t, d, heal(id, 3))
	mustNotAdmit(t, d, heal(name(1, 0, 0), 3), api.ErrFull)
	mustNotAdmit(t, d, elsewhere, api.ErrFull)
	mustNotAdmit(t, d, named(in(w, 0), id), api.ErrFull)
	mustNotAdmit(t, d, named(in(w, 0), name(0, 1, 0)), api.ErrFull)
	mustNotAdmit(t, d, named(in(w, 0), name(16, 0, 0)), api.ErrArg) // ahead of ErrFull
	mustNotAdmit(t, d, give(id, api.Bundle{}), api.ErrArg)
	mustNotAdmit(t, d, api.Cmd{}, api.ErrArg)
}

// TestWhoIsRefusedTakesNothing: neither a name nor room.
func TestWhoIsRefusedTakesNothing(t *testing.T) {
	w := tiny()
	d, m := deskOf(t, w), newModel(w)
	for _, q := range []asked{d, m} {
		mustReserve(t, q, 0, 0, 1)
		mustReserve(t, q, 1, 0, 1)
		letIn(t, q, in(w, 0))
		mustNotAdmit(t, q, named(in(w, 0), name(1, 0, 0)), api.ErrRange)
		letIn(t, q, heal(name(0, 0, 0), 3))
		mustNotAdmit(t, q, named(in(w, 1), name(1, 0, 0)), api.ErrFull)
		mustLive(t, q, name(0, 0, 0))
	}
	mustBeAlike(t, d, m)
	mustEndAlike(t, d, m, w)
}

// 16.3

// TestTicksFollowEachOther: each has what waited, and one is open at a time.
func TestTicksFollowEachOther(t *testing.T) {
	d := deskOf(t, small())
	id := letIn(t, d, at(0, 0)).B.ID
	mustStand(t, d, 0, false)
	mustOpen(t, d, 1, named(at(0, 0), id))
	mustNotOpen(t, d)
	want := commands(letIn(t, d, heal(id, 3)), letIn(t, d, still(id)))
	mustNotOpen(t, d)
	mustWait(t, d, want...)
	mustStand(t, d, 1, true)
	mustClose(t, d, 0)
	mustWait(t, d, want...)
	mustNotClose(t, d)
	mustOpen(t, d, 2, want...)
	mustClose(t, d, 0)
	for n := 3; n < 40; n++ {
		mustOpen(t, d, n)
		mustClose(t, d, 0)
	}
	mustLive(t, d, id)
}

// TestTheLastTick: behind MaxTick none is opened; what waits goes on waiting.
func TestTheLastTick(t *testing.T) {
	d := deskOf(t, small())
	d.SetTick(api.MaxTick - 2)
	mustOpen(t, d, api.MaxTick-1)
	mustClose(t, d, 0)
	id := letIn(t, d, at(0, 0)).B.ID
	mustOpen(t, d, 1<<40, named(at(0, 0), id))
	mustNotOpen(t, d)
	letIn(t, d, heal(id, 3))
	mustClose(t, d, 0)
	for range 3 {
		mustNotOpen(t, d)
		mustNotClose(t, d, id)
		mustStand(t, d, 1<<40, false)
		mustWait(t, d, heal(id, 3))
		mustLive(t, d, id)
	}
}

// TestCloseTakesNamesBack: those that are somebody's, each once.
func TestCloseTakesNamesBack(t *testing.T) {
	w := small()
	d := deskOf(t, w)
	a, b, c := letIn(t, d, at(0, 0)).B.ID, letIn(t, d, at(0, 0)).B.ID, letIn(t, d, at(256, 0)).B.ID
	mustNotClose(t, d, a, b, c) // no tick is open
	mustOpen(t, d, 1, named(at(0, 0), a), named(at(0, 0), b), named(at(256, 0), c))
	mustLive(t, d, a, b, c)
	mustClose(t, d, 2, b, name(0, 1, 1), b, name(2, 0, 0), c, name(0, 2, 0), name(4, 0, 0), name(-1, -1, -1), name(math.MinInt, math.MaxInt, 1<<32), c)
	mustLive(t, d, a)
	mustNotClose(t, d, a)
	mustLive(t, d, a)
	mustLook(t, d, at(0, 0), named(at(0, 0), name(0, 1, 1)), false)
	mustOpen(t, d, 2)
	mustClose(t, d, 0, badNames()...)
	mustEnd(t, d, a)
	mustLive(t, d)
}

// TestCloseGoesFromTheFirst: the one behind the other, as their indices' row tells.
func TestCloseGoesFromTheFirst(t *testing.T) {
	w := small()
	w.Ids = 3
	for _, order := range [][]int{{0, 1, 2}, {0, 2, 1}, {1, 0, 2}, {1, 2, 0}, {2, 0, 1}, {2, 1, 0}} {
		d := deskOf(t, w)
		var l, row []api.ID
		for range order {
			l = append(l, letIn(t, d, at(0, 0)).B.ID)
		}
		mustEnd(t, d, l[order[0]], l[order[1]], l[order[2]])
		for _, i := range order {
			want := name(0, i, 1)
			mustLook(t, d, at(0, 0), named(at(0, 0), want), false)
			row = append(row, letIn(t, d, at(0, 0)).B.ID)
		}
		mustEnd(t, d, row...)
	}
}

// TestCloseLeavesWhatWaits: also commands for a name that it takes back, and one that was to begin.
func TestCloseLeavesWhatWaits(t *testing.T) {
	d := deskOf(t, small())
	id := letIn(t, d, at(0, 0)).B.ID
	mustOpen(t, d, 1, named(at(0, 0), id))
	want := commands(letIn(t, d, heal(id, 3)), letIn(t, d, at(256, 0)), letIn(t, d, end(id)))
	mustClose(t, d, 2, id, name(1, 0, 0))
	mustLive(t, d)
	mustWait(t, d, want...)
	mustNotLook(t, d, heal(name(1, 0, 0), 3), api.ErrStale)
	mustOpen(t, d, 2, want...)
}

// TestLapse: what is set aside, and not given, is given no more.
func TestLapse(t *testing.T) {
	w := small()
	d := deskOf(t, w)
	mustReserve(t, d, 0, 0, 1)
	mustReserve(t, d, 3, 1, 2)
	id := letIn(t, d, at(256, 0)).B.ID
	mustLapse(t, d, 2) // not of what is somebody's
	mustLapse(t, d, 0)
	mustLook(t, d, at(0, 0), named(at(0, 0), name(0, 0, block)), true)
	mustNotAdmit(t, d, named(at(0, 0), name(0, 0, 0)), api.ErrStale)
	mustNotAdmit(t, d, named(in(w, 3), name(3, 1, 2*block-1)), api.ErrStale)
	mustWait(t, d, named(at(256, 0), id))
	mustLive(t, d, id)
	mustEnd(t, d, id)
	mustLapse(t, d, 1)
	mustLook(t, d, at(256, 0), named(at(256, 0), name(1, 1, 0)), true)
}

// TestAliveIsSorted: by zones, then by indices, in whatever order they were let in.
func TestAliveIsSorted(t *testing.T) {
	w := small()
	w.Ids, w.Queue = 3, 64
	d := deskOf(t, w)
	var want []api.ID
	for k := range count(w) {
		for i := range w.Ids {
			want = append(want, name(k, i, (k+i)%3))
			mustReserve(t, d, k, i, 1)
		}
	}
	for n := range want {
		id := want[n*7%len(want)]
		mustAdmit(t, d, named(in(w, id.Shard), id))
	}
	mustLive(t, d, want...)
}

// 16.4

// everyCall is some of each kind for the tiny world.
func everyCall() []call {
	w := tiny()
	a, b, c := name(0, 0, 0), name(0, 0, 1), name(1, 0, 0)
	return []call{
		reserve(0, 0), reserve(1, 0), admit(in(w, 0)), admit(named(in(w, 0), b)), admit(named(in(w, 1), c)),
		admit(heal(a, 3)), admit(end(a)), admit(end(b)), open(), closed(), closed(a), closed(c, b), lapse(),
	}
}

// TestShortScripts: all rows of three calls, from some beginnings.
func TestShortScripts(t *testing.T) {
	w, l := tiny(), everyCall()
	for _, ahead := range [][]call{
		nil,
		{reserve(0, 0), admit(in(w, 0)), open()},
		{reserve(0, 0), reserve(1, 0), admit(in(w, 0)), admit(named(in(w, 1), name(1, 0, 0))), open(), closed(name(0, 0, 0))},
	} {
		for at := range len(l) * len(l) * len(l) {
			d, m := deskOf(t, w), newModel(w)
			for _, c := range append(slices.Clone(ahead), l[at/len(l)/len(l)], l[at/len(l)%len(l)], l[at%len(l)]) {
				both(t, d, m, c)
			}
			mustBeAlike(t, d, m)
			mustEndAlike(t, d, m, w)
		}
	}
}

// anyName is mostly that of one that is there, and now and then one that follows it, or any one.
func anyName(seed *sample.Chance, m *model) api.ID {
	l := m.Alive()
	if len(l) == 0 || seed.Below(4) == 0 {
		return name(seed.Below(count(m.world)+1), seed.Below(m.world.Ids+1), seed.Below(3*block))
	}
	id := l[seed.Below(len(l))]
	if seed.Below(8) == 0 {
		id.Gen++
	}
	return id
}

// anyCommand is of any kind, for any name; whoever begins stands in the world, or just beyond it.
func anyCommand(seed *sample.Chance, m *model) api.Cmd {
	one := sample.Any
	if seed.Below(8) == 0 {
		one = sample.Anything
	}
	b := one(seed, 1, m.world.Side)
	b.X += m.world.Side * (seed.Below(m.world.Cols+2) - 1)
	b.Y += m.world.Side * seed.Below(m.world.Rows)
	b.ID = anyName(seed, m)
	return sample.Command(seed.Below(4)+1, b)
}

// lookedAt is a command from outside as Look tells it, and whether it is let in.
func lookedAt(t *testing.T, seed *sample.Chance, d *desk.Desk, m *model) (told, bool) {
	t.Helper()
	c := anyCommand(seed, m)
	if c.Kind == spawn && seed.Below(8) > 0 {
		c.B.ID = api.ID{}
	}
	mustLookAlike(t, d, m, c)
	c, must, e := m.Look(c)
	return told{c, must, e}, e == api.OK
}

// anyCalls is one that may be refused, or those that let a command in as Look tells it.
func anyCalls(t *testing.T, seed *sample.Chance, d *desk.Desk, m *model) []call {
	t.Helper()
	switch seed.Below(10) {
	case 0:
		return []call{reserve(seed.Below(count(m.world)+1), seed.Below(m.world.Ids+1))}
	case 1:
		return []call{admit(anyCommand(seed, m))}
	case 2:
		return []call{open()}
	case 3:
		var l []api.ID
		for range seed.Below(5) {
			l = append(l, anyName(seed, m))
		}
		return []call{closed(l...)}
	}
	x, is := lookedAt(t, seed, d, m)
	switch {
	case !is:
		return nil
	case x.must:
		return []call{reserve(x.cmd.B.ID.Shard, x.cmd.B.ID.Index), admit(x.cmd)}
	}
	return []call{admit(x.cmd)}
}

// busyWorlds is such as have few names, or little room, or a lot of both.
func busyWorlds() []api.Config {
	return append(worlds(), tiny(), small(),
		api.Config{Cols: 3, Rows: 1, Side: 256, Ids: 1, Queue: 64},
		api.Config{Cols: 1, Rows: 1, Side: 256, Ids: 16, Queue: 9},
		api.Config{Cols: 2, Rows: 3, Side: 256, Ids: 3, Queue: 20})
}

// script calls a desk and its model, so often; what was called and not refused is told, with what was answered.
func script(t *testing.T, seed *sample.Chance, d *desk.Desk, m *model, often int) ([]call, []answer) {
	t.Helper()
	var l []call
	var answers []answer
	for range often {
		calls := anyCalls(t, seed, d, m)
		if seed.Below(40) == 0 {
			calls = []call{lapse()}
		}
		for _, c := range calls {
			if a := both(t, d, m, c); a.e == api.OK {
				l, answers = append(l, c), append(answers, a)
			}
		}
	}
	return l, answers
}

// TestLongScripts: with calls that may be refused between.
func TestLongScripts(t *testing.T) {
	seed := sample.Chance(1)
	for _, w := range busyWorlds() {
		for range 30 {
			d, m := deskOf(t, w), newModel(w)
			for range 8 {
				script(t, &seed, d, m, 25)
				mustBeAlike(t, d, m)
			}
			mustEndAlike(t, d, m, w)
		}
	}
}

// TestWhatLookTellsIsLetIn: behind one Reserve, if it says so.
func TestWhatLookTellsIsLetIn(t *testing.T) {
	seed := sample.Chance(2)
	for _, w := range busyWorlds() {
		d, m := deskOf(t, w), newModel(w)
		for range 400 {
			script(t, &seed, d, m, 3)
			x, is := lookedAt(t, &seed, d, m)
			if !is {
				continue
			}
			if id := x.cmd.B.ID; x.must {
				mustNotAdmit(t, d, x.cmd, api.ErrStale)
				both(t, d, m, reserve(id.Shard, id.Index))
			}
			mustAdmit(t, d, x.cmd)
			mustAdmit(t, m, x.cmd)
			mustBeAlike(t, d, m)
		}
	}
}

// TestEachCommandComesInOneTick: in the order in which they were let in; and no name is told twice.
func TestEachCommandComesInOneTick(t *testing.T) {
	seed := sample.Chance(3)
	for _, w := range busyWorlds() {
		d, m := deskOf(t, w), newModel(w)
		l, answers := script(t, &seed, d, m, 3000)
		l, answers = append(l, open()), append(answers, both(t, d, m, open()))
		given := map[api.ID]bool{}
		var in, out []api.Cmd
		for i, c := range l {
			out = append(out, answers[i].cmds...)
			if c.what != 'a' {
				continue
			}
			in = append(in, c.cmd)
			if c.cmd.Kind != spawn {
				continue
			}
			if given[c.cmd.B.ID] {
				t.Errorf("%v is told twice", c.cmd.B.ID)
			}
			given[c.cmd.B.ID] = true
		}
		if in = in[:len(in)-len(d.Waiting())]; !slices.Equal(in, out) {
			t.Errorf("let in: %+v, behind the last tick: %+v", in, out)
		}
	}
}

// TestADeskThatIsToldAgain: what was done to another one, in order, has it stand as that does.
func TestADeskThatIsToldAgain(t *testing.T) {
	seed := sample.Chance(4)
	for _, w := range busyWorlds() {
		for range 20 {
			d := deskOf(t, w)
			l, answers := script(t, &seed, d, newModel(w), 150)
			again, m := deskOf(t, w), newModel(w)
			for i, c := range l {
				a := both(t, again, m, c)
				if a.n != answers[i].n || !slices.Equal(a.cmds, answers[i].cmds) || a.e != api.OK {
					t.Errorf("%c %+v %v: %+v once more, behind %+v", c.what, c.cmd, c.names, a, answers[i])
				}
			}
			mustBeAlike(t, d, m)
			mustBeAlike(t, again, m)
			mustEndAlike(t, d, again, w)
		}
	}
}

// The rules

// TestOfANilDesk: ErrArg, or nothing; P1.
func TestOfANilDesk(t *testing.T) {
	var d *desk.Desk
	for _, c := range append(badCommands(name(0, 0, 1)), at(0, 0), end(name(0, 0, 0)), heal(name(0, 0, 0), 3)) {
		mustNotLook(t, d, c, api.ErrArg)
		mustNotAdmit(t, d, c, api.ErrArg)
	}
	for _, n := range allNumbers() {
		must(t, "Reserve", d.Reserve(n, 0), api.ErrArg)
		must(t, "Reserve", d.Reserve(0, n), api.ErrArg)
	}
	if n, l, e := d.Open(); n != 0 || len(l) != 0 || e != api.ErrArg {
		t.Errorf("Open: %d, %v, %d", n, l, e)
	}
	for _, l := range [][]api.ID{nil, {}, names(), badNames()} {
		if n, e := d.Close(l...); n != 0 || e != api.ErrArg {
			t.Errorf("Close(%v): %d, %d", l, n, e)
		}
	}
	mustLapse(t, d, 0)
	mustStand(t, d, 0, false)
	mustWait(t, d)
	mustLive(t, d)
}

// TestOfADeskThatNewDidNotMake: it ends; no zone has a name.
func TestOfADeskThatNewDidNotMake(t *testing.T) {
	d := &desk.Desk{}
	for _, c := range append(badCommands(name(0, 0, 1)), at(0, 0), end(name(0, 0, 0)), heal(name(0, 0, 0), 3)) {
		if _, _, e := d.Look(c); e == api.OK || d.Admit(c) == api.OK {
			t.Errorf("%+v is let in", c)
		}
	}
	d.Reserve(0, 0)
	d.Open()
	d.Close(names()...)
	mustLapse(t, d, 0)
	mustWait(t, d)
	mustLive(t, d)
}

// TestDesksAreNotEachOther: nor do two of one world share anything.
func TestDesksAreNotEachOther(t *testing.T) {
	w := small()
	d, other := deskOf(t, w), deskOf(t, w)
	letIn(t, d, at(0, 0))
	mustEnd(t, d)
	letIn(t, d, at(256, 0))
	mustBeAlike(t, other, newModel(w))
	mustEndAlike(t, other, newModel(w), w)
}

// TestWhatIsHandedInIsLeftAlone: R4: names that are closed, and those that stand behind them.
func TestWhatIsHandedInIsLeftAlone(t *testing.T) {
	d := deskOf(t, small())
	a, b := letIn(t, d, at(0, 0)).B.ID, letIn(t, d, at(0, 0)).B.ID
	mustOpen(t, d, 1, named(at(0, 0), a), named(at(0, 0), b))
	long := dead(b, name(9, 9, 9), name(0, 0, 3), a, b)
	was := slices.Clone(long)
	mustClose(t, d, 1, long[:3]...)
	if !slices.Equal(long, was) {
		t.Errorf("%v, was %v", long, was)
	}
	mustLive(t, d, a)
	clear(long)
	mustLive(t, d, a)
}

// TestWhatIsAnsweredIsTheAskersOwn: R4: whatever is done to a list, or in the room behind it.
func TestWhatIsAnsweredIsTheAskersOwn(t *testing.T) {
	w := small()
	d := deskOf(t, w)
	want := commands(letIn(t, d, at(0, 0)), letIn(t, d, at(256, 0)), letIn(t, d, at(0, 0)))
	spoil := func(l []api.Cmd) {
		clear(l[:cap(l)])
	}
	spoil(d.Waiting())
	mustWait(t, d, want...)
	clear(d.Alive())
	mustLive(t, d, name(0, 0, 0), name(0, 1, 0), name(1, 0, 0))
	kept, other := d.Waiting(), d.Waiting()
	spoil(other)
	_, opened, _ := d.Open()
	more := commands(letIn(t, d, heal(name(0, 0, 0), 3)), letIn(t, d, end(name(0, 0, 0))))
	if !slices.Equal(opened, want) || !slices.Equal(kept, want) {
		t.Errorf("%+v, %+v, want %+v", opened, kept, want)
	}
	spoil(opened)
	mustWait(t, d, more...)
	mustClose(t, d, 0)
	mustOpen(t, d, 2, more...)
}

// TestExample is the chapter's.
func TestExample(t *testing.T) {
	d := deskOf(t, small())
	id := name(0, 0, 0)
	mustLook(t, d, at(0, 0), named(at(0, 0), id), true)
	mustReserve(t, d, 0, 0, 1)
	mustAdmit(t, d, named(at(0, 0), id))
	mustLook(t, d, end(id), end(id), false)
	mustAdmit(t, d, end(id))
	mustNotLook(t, d, heal(id, 3), api.ErrUsed)
	mustOpen(t, d, 1, named(at(0, 0), id), end(id))
	mustClose(t, d, 1, id)
}

// TestExamplesOfTheDocument: the fourth's name, the eighth's next one, and the tenth.
func TestExamplesOfTheDocument(t *testing.T) {
	w := tiny()
	w.Radius, w.Speed = 9, 30
	d := deskOf(t, w)
	c := begin(api.Bundle{Mask: pos | vel, X: 250, VX: 10})
	mustLook(t, d, c, named(c, name(0, 0, 0)), true)
	letIn(t, d, c)
	mustEnd(t, d, name(0, 0, 0))
	mustLook(t, d, c, named(c, name(0, 0, 1)), false)
	mustNotLook(t, d, end(name(0, 0, 0)), api.ErrStale)
}

package kernel

import (
	"slices"
	"testing"

	"garrison/api"
)

// TestOneCall: P19.3: each phase of a call, and what one step of it does.
func TestOneCall(t *testing.T) {
	x := set(t, 2, 9, 1024, 1)
	c := mint(to(0), to(2), 15, 0)
	x.load(0, c, look(0))
	x.is(0, api.CoIdle)
	x.steps(0, 1)
	x.is(0, api.CoPlan)
	if h := x.k.Hist(); len(h.Spans) != 1 || h.Spans[0] != (api.Span{Core: 0, Call: c, Start: 1}) || x.k.Left(0) != 1 {
		t.Fatal(h)
	}
	if e := x.k.Epochs(); !slices.Equal(e.Pins, []int64{2, 0}) {
		t.Fatal(e)
	}
	x.steps(0, 1)
	x.is(0, api.CoLock)
	cells := []int{0, 1, 2, 3, 9} // node 0, its slots 0, 1, 2, the untyped object
	for i := range cells {
		x.steps(0, 1)
		x.is(0, api.CoLock, cells[:i+1]...)
	}
	locks := x.k.Locks()
	for cell, v := range locks {
		if held := slices.Contains(cells, cell); held && v != 1 || !held && v != 0 {
			t.Fatal(locks)
		}
	}
	if h := x.k.Hist(); len(h.Events) != 0 || x.k.Now() != 7 {
		t.Fatal(h)
	}
	x.steps(0, 1)
	x.is(0, api.CoUnlock, cells...)
	h := x.k.Hist()
	if len(h.Events) != 1 || !likeEvent(h.Events[0], api.Event{Kind: api.EvDo, Core: 0, Call: c, Stamp: 8, Replies: []api.Done{{}}}) || h.Spans[0].End != 0 {
		t.Fatal(h)
	}
	if s := x.k.State(); s.Nodes[0][2] != (api.Cap{Type: api.TyUntyped, Rights: 15, Obj: 1}) {
		t.Fatal(s.Nodes)
	}
	for i := 4; i >= 1; i-- {
		x.steps(0, 1)
		x.is(0, api.CoUnlock, cells[:i]...)
	}
	x.steps(0, 1)
	x.is(0, api.CoLeave)
	if e := x.k.Epochs(); !slices.Equal(e.Pins, []int64{2, 0}) || x.k.Now() != 13 {
		t.Fatal(e)
	}
	x.steps(0, 1)
	x.is(0, api.CoIdle)
	if h := x.k.Hist(); h.Spans[0] != (api.Span{Core: 0, Call: c, Start: 1, End: 14}) || len(h.Events) != 1 {
		t.Fatal(h)
	}
	if e := x.k.Epochs(); !slices.Equal(e.Pins, []int64{0, 0}) || e.Now != 1 {
		t.Fatal(e)
	}
	x.steps(0, 1)
	if h := x.k.Hist(); h.Spans[1] != (api.Span{Core: 0, Call: look(0), Start: 15}) || x.k.Left(0) != 0 {
		t.Fatal(h)
	}
}

// TestNothingToTake: P19.3: a call that has to do with nothing: it plans, acts, has nothing to let go, leaves.
func TestNothingToTake(t *testing.T) {
	wrong := []api.Call{{}, {Kind: 13}, {Kind: -1, A: to(0)}, look(0), {Kind: api.CaLook, A: to(0), Value: 1}, mint(to(0), to(2), 16, 0), mint(to(0), 0, 15, 0), revoke(0), {Kind: api.CaRevoke, A: to(0), Size: 1}}
	for _, end := range ends {
		wrong = append(wrong, api.Call{Kind: end, A: to(0)}, mint(to(0), to(2), end, 0), mint(to(0), to(2), 15, end), retype(to(0), to(2), end, 0), retype(to(0), to(2), api.TyFrame, end))
	}
	for _, c := range wrong {
		x := set(t, 1, 9, 1024, 1)
		x.load(0, c)
		for _, phase := range []int{api.CoPlan, api.CoLock, api.CoUnlock, api.CoLeave, api.CoIdle} {
			x.steps(0, 1)
			x.is(0, phase)
		}
		kind := api.EvDo
		if c.Kind == api.CaRevoke {
			kind = api.EvBegin
		}
		reply := api.Reply{Code: 150}
		h := x.k.Hist()
		if x.step(0) || h.Spans[0] != (api.Span{Call: c, Start: 1, End: 5, Reply: reply}) || !likeEvent(h.Events[0], api.Event{Kind: kind, Call: c, Stamp: 3, Replies: []api.Done{{Reply: reply}}}) {
			t.Fatalf("%+v: %+v", c, h)
		}
		x.rounds()
	}
	x := set(t, 1, 9, 1024, 1)
	for _, w := range []uint64{to(2, 0), to(0, 0), to(1, 1), to(3, 3, 3, 3)} { // where nothing is, or no node
		x.does(0, look(w), api.Reply{Code: 120})
		x.does(0, revoke(w), api.Reply{Code: 120})
	}
	if x.k.Now() != 40 || len(x.k.Hist().Events) != 8 {
		t.Fatal(x.k.Now())
	}
	x.rounds()
}

// TestTakes: P19.3: who finds a lock taken tries it at each step, and has it when it is free.
func TestTakes(t *testing.T) {
	x := set(t, 2, 9, 1024, 1)
	x.load(0, look(to(2)))
	x.load(1, look(to(2)), look(to(3)))
	x.steps(0, 3)
	x.is(0, api.CoLock, 0)
	x.steps(1, 7)
	x.is(1, api.CoLock)
	x.steps(0, 1)
	x.is(0, api.CoLock, 0, 3)
	x.steps(1, 2)
	x.steps(0, 2) // acts, and lets one go
	x.is(0, api.CoUnlock, 0)
	x.steps(1, 3)
	x.is(1, api.CoLock)
	x.steps(0, 1)
	x.is(0, api.CoLeave)
	x.steps(1, 1)
	x.is(1, api.CoLock, 0)
	x.steps(0, 1)
	x.is(0, api.CoIdle)
	x.steps(1, 2) // takes the other one, acts
	x.is(1, api.CoUnlock, 0, 3)
	if s := x.last(1); s.Start != 4 || s.End != 0 || x.k.Now() != 23 || x.k.Hist().Events[1].Stamp != 23 {
		t.Fatal(x.k.Hist())
	}
	x.rounds()
}

// TestApart: who has to do with other things does not wait.
func TestApart(t *testing.T) {
	x := set(t, 2, 9, 1024, 2) // nodes 0 and 1, untyped 2 and 3, the endpoint 4
	x.load(0, mint(to(0), to(7), 15, 0))
	x.load(1, look(to(7)))
	x.act(0)
	x.is(0, api.CoUnlock, 0, 1, 2, 8, 18)
	x.until(1, api.CoIdle)
	x.rounds()
}

// TestLooksAgain: P19.3: what it has to do with has changed between plan and act: it lets all go, and plans anew.
func TestLooksAgain(t *testing.T) {
	x := set(t, 2, 9, 1024, 1)
	x.load(0, erase(to(0)))
	x.load(1, mint(to(0), to(2), 15, 0))
	x.steps(0, 2)
	x.until(1, api.CoIdle) // 2 stands right behind 0 now
	for range 4 {
		x.steps(0, 1)
	}
	x.is(0, api.CoLock, 0, 1, 2, 9)
	x.steps(0, 1)
	x.is(0, api.CoUnlock, 0, 1, 2, 9)
	if len(x.k.Hist().Events) != 1 || x.k.Hist().Spans[0].End != 0 {
		t.Fatal(x.k.Hist())
	}
	x.steps(0, 3)
	x.is(0, api.CoUnlock, 0)
	x.steps(0, 1)
	x.is(0, api.CoPlan)
	x.steps(0, 1)
	x.is(0, api.CoLock)
	x.steps(0, 5)
	x.is(0, api.CoLock, 0, 1, 2, 3, 9)
	e := x.act(0)
	if e.Core != 0 || e.Replies[0].Reply.Code != api.ErrKids {
		t.Fatal(e)
	}
	x.until(0, api.CoIdle)
	if x.step(0) || !slices.Equal(x.codes(0), []api.Errno{api.ErrKids}) {
		t.Fatal(x.k.Hist())
	}
}

// TestLooksAgainFromNothing: P19.3: it had to do with nothing when it planned, and has with something now: there is nothing to let go.
func TestLooksAgainFromNothing(t *testing.T) {
	x := set(t, 2, 9, 1024, 1)
	x.load(0, look(to(2, 1)))
	x.steps(0, 2)
	x.is(0, api.CoLock)
	x.ok(1, retype(to(0), to(2), api.TyNode, 0))
	for _, phase := range []int{api.CoUnlock, api.CoPlan, api.CoLock} {
		x.steps(0, 1)
		x.is(0, phase)
	}
	x.steps(0, 4) // node 0, its slot 2, node 3, its slot 1
	x.is(0, api.CoLock, 0, 3, 27, 29)
	x.act(0)
	x.until(0, api.CoIdle)
	if !slices.Equal(x.codes(0), []api.Errno{api.OK}) {
		t.Fatal(x.codes(0))
	}
}

// TestHoldsMore: P19.3: to have to do with less than what it holds is no reason to look again.
func TestHoldsMore(t *testing.T) {
	x := set(t, 2, 9, 1024, 1)
	x.ok(1, mint(to(0), to(2), 15, 0))
	x.load(0, look(to(2)))
	x.load(1, erase(to(2)))
	x.steps(0, 2)
	x.until(1, api.CoIdle)
	x.act(0)
	x.is(0, api.CoUnlock, 0, 1, 2, 3, 9)
	x.rounds()
	if s := x.last(0); s.Reply != (api.Reply{}) {
		t.Fatal(s)
	}
}

// TestTwoForOne is the chapter's example, in many orders of their steps: two who retype, and there is memory, or a place, for one alone.
func TestTwoForOne(t *testing.T) {
	for space, objs := range map[int]int{16: 9, 64: 4} {
		won := [2]int{}
		lost := api.Errno(173)
		if objs == 4 {
			lost = 5 // the place 3 is in the list of core 1
		}
		orders(func(picks []int) {
			x := set(t, 2, objs, space, 1)
			x.load(0, retype(to(0), to(2), api.TyFrame, 0))
			x.load(1, retype(to(0), to(3), api.TyFrame, 0))
			x.run(picks)
			x.rounds()
			switch codes := append(x.codes(0), x.codes(1)...); {
			case slices.Equal(codes, []api.Errno{api.OK, lost}) && objs != 4:
				won[0]++
			case slices.Equal(codes, []api.Errno{lost, api.OK}):
				won[1]++
			default:
				t.Fatal(picks, codes)
			}
		})
		if objs != 4 && (won[0] < 100 || won[1] < 100) {
			t.Fatal(won)
		}
	}
}

// orders yields picks of two cores: each of short ones, and i steps of one core, j of the other, n of the first again.
func orders(do func(picks []int)) {
	for bits := range 1 << 7 {
		var l []int
		for i := range 7 {
			l = append(l, bits>>i&1)
		}
		do(l)
	}
	for first := range 2 {
		for i := range 12 {
			for j := 3; j < 12; j += 2 {
				do(slices.Concat(slices.Repeat([]int{first}, i), slices.Repeat([]int{1 - first}, j), slices.Repeat([]int{first}, i*j%7)))
			}
		}
	}
}

// TestTwoForOneSlot: one has it, the other is answered ErrThere, whatever the order.
func TestTwoForOneSlot(t *testing.T) {
	orders(func(picks []int) {
		x := set(t, 2, 9, 1024, 1)
		x.load(0, mint(to(0), to(2), 15, 0))
		x.load(1, mint(to(1), to(2), 15, 0))
		x.run(picks)
		x.rounds()
		codes := append(x.codes(0), x.codes(1)...)
		slices.Sort(codes)
		if !slices.Equal(codes, []api.Errno{api.OK, api.ErrThere}) {
			t.Fatal(picks, codes)
		}
	})
}

// TestStamps: an event's Stamp is when it came, a span's Start and End when it was made and over.
func TestStamps(t *testing.T) {
	x := set(t, 2, 9, 1024, 1)
	x.load(0, look(0))
	x.load(1, look(0), look(0))
	x.k.Run(1, 0, 0, 1, 1, 1, 0, 1, 0, 0, 1, 1)
	want := api.History{
		Spans: []api.Span{
			{Core: 1, Call: look(0), Start: 1, End: 8, Reply: api.Reply{Code: 150}},
			{Core: 0, Call: look(0), Start: 2, End: 10, Reply: api.Reply{Code: 150}},
			{Core: 1, Call: look(0), Start: 11},
		},
		Events: []api.Event{
			{Core: 1, Call: look(0), Stamp: 5, Replies: []api.Done{{Core: 1, Reply: api.Reply{Code: 150}}}},
			{Core: 0, Call: look(0), Stamp: 7, Replies: []api.Done{{Core: 0, Reply: api.Reply{Code: 150}}}},
		},
	}
	if !likeHist(x.k.Hist(), want) || x.k.Now() != 12 {
		t.Fatalf("%+v", x.k.Hist())
	}
}

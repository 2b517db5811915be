package kernel

import (
	"slices"
	"testing"

	"garrison/api"
)

// waits asks what waits in the core's limbo: in the state, and with which epochs.
func (x *scene) waits(core int, want []int, waste ...api.Waste) {
	x.t.Helper()
	if l, e := x.k.State().Limbo[core], x.k.Epochs().Limbo[core]; !slices.Equal(l, want) || !slices.Equal(e, waste) {
		x.t.Fatalf("at %d of core %d wait %v, %v, not %v, %v", x.k.Now(), core, l, e, want, waste)
	}
}

// epoch asks which one it is.
func (x *scene) epoch(want int64) {
	x.t.Helper()
	if e := x.k.Epochs().Now; e != want {
		x.t.Fatalf("at %d it is the epoch %d, not %d", x.k.Now(), e, want)
	}
}

// TestReaps: P19.3: what an idle core does with what has died, ahead of its calls: it advances, reaps, gives back, one thing at a step.
func TestReaps(t *testing.T) {
	x := set(t, 1, 9, 1024, 1)
	x.ok(0, retype(to(0), to(2), api.TyFrame, 0), retype(to(0), to(3), api.TyNotice, 0))
	x.epoch(1)
	x.load(0, erase(to(2)), look(to(0)))
	x.act(0)
	x.waits(0, []int{3}, api.Waste{Obj: 3, Epoch: 1})
	x.until(0, api.CoIdle)
	at := x.k.Now()
	x.steps(0, 1)
	x.epoch(2)
	x.is(0, api.CoIdle)
	x.steps(0, 1)
	x.epoch(3)
	x.waits(0, []int{3}, api.Waste{Obj: 3, Epoch: 1})
	x.steps(0, 1)
	x.epoch(3)
	x.waits(0, []int{3})
	if n := len(x.k.Hist().Events); n != 3 || x.k.Left(0) != 1 {
		t.Fatal(n)
	}
	x.steps(0, 1)
	x.waits(0, nil)
	h := x.k.Hist()
	if !likeEvent(h.Events[3], api.Event{Kind: api.EvFree, Stamp: at + 4}) || h.Events[3].Replies != nil || x.k.Left(0) != 1 {
		t.Fatal(h.Events)
	}
	if s := x.k.State(); !slices.Equal(s.Arena.Free[0], []int{5, 6, 7, 8, 3}) || s.Arena.Things[3].Gen != 1 {
		t.Fatal(s.Arena)
	}
	x.is(0, api.CoIdle)
	x.steps(0, 1)
	x.is(0, api.CoPlan)
	x.rounds()
	x.epoch(3)
}

// TestReapsMany: two that died at once are reaped at once, and given back one behind the other.
func TestReapsMany(t *testing.T) {
	x := set(t, 1, 9, 1024, 1)
	x.ok(0, retype(to(0), to(2), api.TyUntyped, 64), retype(to(2), to(3), api.TyUntyped, 16), retype(to(3), to(4), api.TyFrame, 0), erase(to(4)))
	x.waits(0, nil)
	x.epoch(3)
	x.load(0, erase(to(3)), erase(to(2)), look(0))
	x.act(0)
	x.waits(0, []int{4}, api.Waste{Obj: 4, Epoch: 3})
	x.until(0, api.CoIdle)
	x.steps(0, 4) // twice on, reaped, given back
	x.epoch(5)
	x.waits(0, nil)
	x.act(0)
	x.waits(0, []int{3}, api.Waste{Obj: 3, Epoch: 5})
	x.rounds()
	x.epoch(7)

	x = set(t, 1, 9, 1024, 1)
	x.ok(0, retype(to(0), to(2), api.TyNode, 0), retype(to(0), to(3), api.TyFrame, 0), retype(to(0), to(4), api.TyFrame, 0))
	x.load(0, revoke(to(0)), look(0))
	x.until(0, api.CoLeave)
	x.waits(0, []int{3, 4, 5}, api.Waste{Obj: 3, Epoch: 1}, api.Waste{Obj: 4, Epoch: 1}, api.Waste{Obj: 5, Epoch: 1})
	x.steps(0, 4) // leaves, twice on, reaped
	x.waits(0, []int{3, 4, 5})
	x.steps(0, 1)
	x.waits(0, []int{4, 5})
	x.steps(0, 1)
	x.waits(0, []int{5})
	x.is(0, api.CoIdle)
	x.steps(0, 1)
	x.waits(0, nil)
	if s := x.k.State(); !slices.Equal(s.Arena.Free[0], []int{6, 7, 8, 3, 4, 5}) || x.k.Left(0) != 1 {
		t.Fatal(s.Arena.Free)
	}
	x.steps(0, 1)
	x.is(0, api.CoPlan)
	x.rounds()
}

// TestTwoDieAtOnce: of one event: a node that nothing names any more, with what its one slot alone has.
func TestTwoDieAtOnce(t *testing.T) {
	x := set(t, 1, 9, 1024, 1)
	x.ok(0, retype(to(0), to(2), api.TyNode, 0), retype(to(0), to(3), api.TyFrame, 0), move(to(3), to(2, 5)), erase(to(2)))
	x.load(0, revoke(to(0)))
	x.act(0) // begins
	x.act(0) // marks
	x.waits(0, nil)
	x.act(0)
	x.waits(0, []int{3, 4}, api.Waste{Obj: 3, Epoch: 1}, api.Waste{Obj: 4, Epoch: 1})
	x.rounds()
	x.waits(0, nil)
	if s := x.k.State(); !slices.Equal(s.Arena.Free[0], []int{5, 6, 7, 8, 3, 4}) {
		t.Fatal(s.Arena.Free)
	}
}

// TestHeldBack: P19.3, P19.9: somebody who is in a call holds the epoch back: what died waits, calls go on, and who has none has nothing to do.
func TestHeldBack(t *testing.T) {
	x := set(t, 2, 9, 1024, 1)
	x.ok(0, retype(to(0), to(2), api.TyFrame, 0))
	x.load(1, look(to(2)))
	x.steps(1, 1) // in epoch 1
	x.load(0, erase(to(2)))
	x.until(0, api.CoIdle)
	x.waits(0, []int{4}, api.Waste{Obj: 4, Epoch: 1})
	x.steps(0, 1)
	x.epoch(2)
	if x.step(0) || x.step(0) {
		t.Fatal("core 1 holds the epoch back")
	}
	x.load(0, look(to(0)))
	x.steps(0, 1)
	x.is(0, api.CoPlan)
	x.until(0, api.CoIdle)
	if x.step(0) {
		t.Fatal("it has nothing to do")
	}
	x.until(1, api.CoLeave)
	if x.step(0) {
		t.Fatal("core 1 has not left yet")
	}
	x.steps(1, 1)
	x.steps(0, 1)
	x.epoch(3)
	x.steps(0, 1)
	x.waits(0, []int{4})
	x.steps(0, 1)
	x.waits(0, nil)
	x.rounds()
}

// TestEachAhead: P19.3: giving back comes ahead of advancing, reaping too; and of two that died in unlike epochs the first one alone is reaped.
func TestEachAhead(t *testing.T) {
	x := set(t, 2, 9, 1024, 1) // the places 4, 6, 8 for core 0
	x.ok(0, retype(to(0), to(2), api.TyFrame, 0), retype(to(0), to(3), api.TyFrame, 0))
	x.load(1, look(to(0)))
	x.steps(1, 1)
	x.load(0, erase(to(2)), erase(to(3)))
	x.until(0, api.CoIdle)
	x.steps(0, 1)
	x.epoch(2)
	x.until(0, api.CoIdle) // the second call
	x.waits(0, []int{4, 6}, api.Waste{Obj: 4, Epoch: 1}, api.Waste{Obj: 6, Epoch: 2})
	x.until(1, api.CoIdle)
	x.load(0, look(0))
	x.steps(0, 1)
	x.epoch(3)
	x.steps(0, 1) // reaping comes ahead of advancing
	x.epoch(3)
	x.waits(0, []int{4, 6}, api.Waste{Obj: 6, Epoch: 2})
	x.steps(0, 1) // giving back, too
	x.epoch(3)
	x.waits(0, []int{6}, api.Waste{Obj: 6, Epoch: 2})
	x.steps(0, 1)
	x.epoch(4)
	x.steps(0, 1)
	x.waits(0, []int{6})
	x.steps(0, 1)
	x.waits(0, nil)
	x.is(0, api.CoIdle)
	if n := len(x.k.Hist().Events); x.k.Left(0) != 1 || n != 7 {
		t.Fatal(n)
	}
	x.steps(0, 1)
	x.is(0, api.CoPlan)
	x.rounds()
}

// TestOthersAdvance: what one core has advanced lets another one reap; who has nothing that waits does neither.
func TestOthersAdvance(t *testing.T) {
	x := set(t, 3, 12, 1024, 1) // 3, 6, 9 for core 0, 4, 7, 10 for core 1
	x.ok(0, retype(to(0), to(2), api.TyFrame, 0))
	x.ok(1, retype(to(0), to(3), api.TyFrame, 0))
	x.load(0, erase(to(2)))
	x.load(1, erase(to(3)))
	x.until(0, api.CoIdle)
	x.until(1, api.CoIdle)
	if x.step(2) {
		t.Fatal("nothing waits for core 2")
	}
	x.steps(0, 2)
	x.epoch(3)
	x.steps(1, 1)
	x.waits(1, []int{4})
	x.waits(0, []int{3}, api.Waste{Obj: 3, Epoch: 1})
	x.steps(1, 1)
	x.waits(1, nil)
	if x.step(1) || x.step(2) {
		t.Fatal("nothing waits any more")
	}
	x.epoch(3)
	x.steps(0, 2)
	x.waits(0, nil)
	x.rounds()
}

// TestWhoseLimbo: what dies waits for the core whose call it died of, and is free for that one.
func TestWhoseLimbo(t *testing.T) {
	x := set(t, 2, 9, 1024, 1)
	x.ok(0, retype(to(0), to(2), api.TyFrame, 0))
	x.load(1, erase(to(2)))
	x.act(1)
	x.waits(0, nil)
	x.waits(1, []int{4}, api.Waste{Obj: 4, Epoch: 1})
	x.rounds()
	if s := x.k.State(); !slices.Equal(s.Arena.Free[1], []int{3, 5, 7, 4}) || !slices.Equal(s.Arena.Free[0], []int{6, 8}) {
		t.Fatal(s.Arena.Free)
	}
}

// TestFullLimbo: as long as somebody waits, no more than MaxLimbo of a core can die; another core's limbo is its own.
func TestFullLimbo(t *testing.T) {
	x := set(t, 3, 64, 4096, 1)
	x.ok(0, retype(to(0), to(2), api.TyNode, 0), retype(to(0), to(3), api.TyNode, 0))
	x.load(2, recv(to(1), 0))
	x.until(2, api.CoWait)
	var want []int
	for i := range mostLimbo {
		x.ok(0, retype(to(0), to(4), api.TyFrame, 0), erase(to(4)))
		want = append(want, 9+3*i)
	}
	if l := x.k.State().Limbo[0]; !slices.Equal(l, want) || len(x.k.Epochs().Limbo[0]) != mostLimbo {
		t.Fatal(l)
	}
	x.epoch(2)
	x.ok(0, retype(to(0), to(4), api.TyFrame, 0))
	x.does(0, erase(to(4)), api.Reply{Code: 171})
	x.does(0, revoke(to(0)), api.Reply{Code: 171}) // the last one below 0
	for _, b := range x.k.State().Tree {
		if b.Mark {
			t.Fatal(x.k.State().Tree)
		}
	}
	x.ok(1, erase(to(3)))
	if n := len(x.k.State().Limbo[1]); n != 1 {
		t.Fatal(n)
	}
	x.ok(1, send(to(1), 5, 0)) // core 2 is met
	x.rounds()
	x.waits(0, nil)
	x.waits(1, nil)
	x.ok(0, erase(to(4)), erase(to(2)))
	x.rounds()
	if x.last(2).Reply != (api.Reply{Value: 5}) {
		t.Fatal(x.last(2))
	}
}

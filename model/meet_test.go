package model

import (
	"math"
	"slices"
	"testing"

	"garrison/api"
)

// both are the replies to who calls, and then to another one.
func both(core int, r api.Reply, other int, q api.Reply) []api.Done {
	return append(one(core, r), one(other, q)...)
}

// waiting are those who wait at a port.
func (x *scene) waiting(obj, kind int, want ...api.Waiter) {
	x.t.Helper()
	if p := x.s.Ports[obj]; p.Kind != kind || p.Word != 0 || !slices.Equal(p.Queue, want) {
		x.t.Fatal(obj, p, "not", kind, want)
	}
}

// TestSendAndRecv: P17.5: who comes first waits, and is met by who comes then; both ways.
func TestSendAndRecv(t *testing.T) {
	x := set(t, 4, 20, 1024, 1)
	x.ok(0, mint(to(1), to(2), api.Write, 7), mint(to(1), to(3), api.Read, 9), retype(to(0), to(4), api.TyNode, 0))
	for _, v := range []int64{5, 0, -1, math.MaxInt64, math.MinInt64} {
		x.does(1, send(to(2), v, 0))
		x.waiting(2, 1, api.Waiter{Core: 1, Value: v, Badge: 7})
		x.does(0, recv(to(3), 0), both(0, api.Reply{Value: v, Badge: 7}, 1, api.Reply{})...)
		x.waiting(2, 0)
		x.does(0, recv(to(3), 0))
		x.waiting(2, 2, api.Waiter{Core: 0})
		x.does(1, send(to(2), v, 0), both(1, api.Reply{}, 0, api.Reply{Value: v, Badge: 7})...)
		x.waiting(2, 0)
	}
	x.does(2, recv(to(1), to(4, 6)))
	x.does(1, recv(to(3), to(5)))
	x.does(3, recv(to(3), 0))
	x.waiting(2, 2, api.Waiter{Core: 2, Has: true, Slot: key(4, 6)}, api.Waiter{Core: 1, Has: true, Slot: key(0, 5)}, api.Waiter{Core: 3})
	x.does(0, send(to(1), 1, 0), both(0, api.Reply{}, 2, api.Reply{Value: 1})...)
	x.does(0, send(to(2), 2, 0), both(0, api.Reply{}, 1, api.Reply{Value: 2, Badge: 7})...)
	x.does(0, send(to(1), 3, to(0)), both(0, api.Reply{}, 3, api.Reply{Value: 3})...)
	x.does(0, send(to(1), 4, to(0)))
	x.does(2, send(to(1), 5, to(4, 7)))
	x.waiting(2, 1, api.Waiter{Core: 0, Value: 4, Has: true, Slot: key(0, 0), Grant: true}, api.Waiter{Core: 2, Value: 5, Has: true, Slot: key(4, 7), Grant: true})
	x.does(1, recv(to(1), 0), both(1, api.Reply{Value: 4}, 0, api.Reply{})...)
	x.does(1, recv(to(1), to(5)), both(1, api.Reply{Value: 5}, 2, api.Reply{})...) // nothing is at 4, 7
	x.tree(twig(0, 0, 0), twig(0, 4, 1), twig(0, 1, 0), twig(0, 3, 1), twig(0, 2, 1))
}

// TestHandOver: P17.5: a capability goes along, from one domain to another one, and is derived from that of who sends.
func TestHandOver(t *testing.T) {
	for _, first := range []int{0, 1} {
		x := set(t, 2, 20, 1024, 2)
		x.ok(0, retype(to(0), to(2), api.TyFrame, 0), mint(to(2), to(3), 5, 0), mint(to(3), to(4), 1, 0))
		x.ok(1, retype(to(0), to(2), api.TyNode, 0))
		c := x.cap(0, 3)
		if first == 0 {
			x.does(0, send(to(1), 8, to(3)))
			x.does(1, recv(to(1), to(2, 5)), both(1, api.Reply{Value: 8, Cap: true}, 0, api.Reply{Cap: true})...)
		} else {
			x.does(1, recv(to(1), to(2, 5)))
			x.does(0, send(to(1), 8, to(3)), both(0, api.Reply{Cap: true}, 1, api.Reply{Value: 8, Cap: true})...)
		}
		x.has(0, 3, c)
		x.has(5, 5, c)
		x.tree(twig(0, 0, 0), twig(0, 2, 1), twig(0, 3, 2), twig(5, 5, 3), twig(0, 4, 3), twig(0, 1, 0), twig(1, 0, 0), twig(1, 2, 1), twig(1, 1, 0))
		x.refs(6, 4, 2, 2, 2, 2, 4)
		x.ok(1, read(to(2, 5)))
		x.ok(0, revoke(to(3)))
		x.refused(1, read(to(2, 5)), api.ErrNone)
	}
}

// TestHandOverBadge: what goes along is the same capability, badge and all.
func TestHandOverBadge(t *testing.T) {
	x := set(t, 2, 9, 1024, 2)
	x.ok(0, mint(to(1), to(2), 7, 300))
	x.does(1, recv(to(1), to(3)))
	x.does(0, send(to(2), 1, to(2)), both(0, api.Reply{Cap: true}, 1, api.Reply{Value: 1, Badge: 300, Cap: true})...)
	x.has(1, 3, api.Cap{Type: api.TyEndpoint, Rights: 7, Badge: 300, Obj: 4})
}

// TestNoHandOver: P17.5: each of the reasons for which no capability goes along. The others are answered as ever.
func TestNoHandOver(t *testing.T) {
	// Core 0 gives from the node at 3, core 1 takes it into the node at 4; core 2 does what comes in between.
	begin := func() *scene {
		x := set(t, 3, 20, 1024, 1)
		x.ok(2, retype(to(0), to(2), api.TyFrame, 0), retype(to(0), to(3), api.TyNode, 0), retype(to(0), to(4), api.TyNode, 0), mint(to(2), to(3, 0), 15, 0))
		return x
	}
	frame := to(3, 0)
	for i, try := range []struct {
		f, t      uint64
		first     int // who comes first
		meanwhile []api.Call
	}{
		{0, to(4, 0), 0, nil}, {0, to(4, 0), 1, nil}, // who sends gives nothing
		{frame, 0, 0, nil}, {frame, 0, 1, nil}, // who receives takes nothing
		{0, 0, 0, nil}, {0, 0, 1, nil},
		{to(3, 1), to(4, 0), 0, nil}, {to(3, 1), to(4, 0), 1, nil}, // nothing is there
		{frame, to(4, 0), 0, []api.Call{erase(to(3, 0))}}, // it was there
		{frame, to(4, 0), 0, []api.Call{move(to(3, 0), to(3, 1))}},
		{frame, to(4, 0), 1, []api.Call{mint(to(1), to(4, 0), 1, 0)}}, // something is there by now
		{frame, to(1), 0, nil}, {frame, to(1), 1, nil}, {frame, frame, 0, nil}, {frame, frame, 1, nil},
		{frame, to(4, 0), 0, []api.Call{erase(to(3, 0)), erase(to(3))}}, // the node is dead
		{frame, to(4, 0), 1, []api.Call{erase(to(4))}},
	} {
		x := begin()
		pair := [2]api.Call{send(to(1), 6, try.f), recv(to(1), try.t)}
		x.does(try.first, pair[try.first])
		x.ok(2, try.meanwhile...)
		before := len(x.s.Tree)
		got, gave := api.Reply{Value: 6}, api.Reply{}
		if try.first == 0 {
			x.does(1, pair[1], both(1, got, 0, gave)...)
		} else {
			x.does(0, pair[0], both(0, gave, 1, got)...)
		}
		if len(x.s.Tree) != before {
			t.Fatal(i, try, x.s.Tree)
		}
	}
}

// TestNoHandOverAnew: P17.5: the place of the node has another node by now: of another Gen.
func TestNoHandOverAnew(t *testing.T) {
	for _, first := range []int{0, 1} {
		x := set(t, 3, 8, 1024, 1) // the places 3, 6 for core 0, 4, 7 for core 1, 5 for core 2
		x.ok(2, retype(to(0), to(2), api.TyNode, 0))
		x.ok(0, mint(to(1), to(2, 0), 15, 1), mint(to(1), to(3), 15, 2))
		x.waiting(2, 0)
		if first == 0 {
			x.does(0, send(to(1), 6, to(2, 0)))
			x.waiting(2, 1, api.Waiter{Core: 0, Value: 6, Has: true, Slot: key(5, 0), Grant: true})
		} else {
			x.does(1, recv(to(1), to(2, 1)))
			x.waiting(2, 2, api.Waiter{Core: 1, Has: true, Slot: key(5, 1)})
		}
		x.ok(2, erase(to(2, 0)), erase(to(2)))
		x.frees(2, 5)
		x.ok(2, retype(to(0), to(2), api.TyNode, 0), mint(to(1), to(2, 0), 15, 3))
		if x.cap(0, 2) != (api.Cap{Type: api.TyNode, Rights: 15, Obj: 5, Gen: 1}) {
			t.Fatal(x.s)
		}
		if first == 0 {
			y := *x
			x.does(1, recv(to(1), to(4)), both(1, api.Reply{Value: 6}, 0, api.Reply{})...)
			y.does(1, recv(to(1), to(2, 7)), both(1, api.Reply{Value: 6}, 0, api.Reply{})...)
		} else {
			x.does(0, send(to(1), 6, to(3)), both(0, api.Reply{}, 1, api.Reply{Value: 6})...)
			x.has(5, 1, api.Cap{})
			x.does(1, recv(to(1), to(2, 1))) // who comes now is of the new Gen
			x.waiting(2, 2, api.Waiter{Core: 1, Has: true, Slot: key(5, 1), Gen: 1})
			x.does(0, send(to(1), 6, to(2, 0)), both(0, api.Reply{Cap: true}, 1, api.Reply{Value: 6, Cap: true})...)
			x.has(5, 1, api.Cap{Type: api.TyEndpoint, Rights: 15, Badge: 3, Obj: 2})
		}
	}
}

// TestNoHandOverBusy: P17.5: what is being revoked, or marked, does not go along; what is below it and not marked does.
func TestNoHandOverBusy(t *testing.T) {
	for turns, goes := range []map[int]bool{{2: false, 3: true, 4: true}, {2: false, 3: false, 4: true}, {2: false, 3: false, 4: false}, {2: false, 3: false}} {
		for slot, want := range goes {
			for _, first := range []int{0, 1} {
				x := set(t, 3, 9, 1024, 1)
				x.ok(0, retype(to(0), to(2), api.TyFrame, 0), mint(to(2), to(3), 15, 0), mint(to(3), to(4), 15, 0))
				f, r := send(to(1), 6, to(slot)), recv(to(1), to(7))
				if first == 0 {
					x.does(0, f)
				} else {
					x.does(1, r)
				}
				x.begins(2, revoke(to(2)))
				for range turns {
					x.turns(2)
				}
				c := x.cap(0, slot)
				if first == 0 {
					x.does(1, r, both(1, api.Reply{Value: 6, Cap: want}, 0, api.Reply{Cap: want})...)
				} else {
					x.does(0, f, both(0, api.Reply{Cap: want}, 1, api.Reply{Value: 6, Cap: want})...)
				}
				if !want {
					c = api.Cap{}
				}
				x.has(0, 7, c)
			}
		}
	}
}

// TestNoHandOverMany: P17.5: there are as many branches as may be; the state is made by hand.
func TestNoHandOverMany(t *testing.T) {
	for n, goes := range map[int]bool{mostTree: false, mostTree - 1: true} {
		for _, first := range []int{0, 1} {
			x := crowded(t, n)
			if first == 0 {
				x.does(0, send(to(1), 6, to(3)))
				x.does(1, recv(to(1), to(5)), both(1, api.Reply{Value: 6, Cap: goes}, 0, api.Reply{Cap: goes})...)
			} else {
				x.does(1, recv(to(1), to(5)))
				x.does(0, send(to(1), 6, to(3)), both(0, api.Reply{Cap: goes}, 1, api.Reply{Value: 6, Cap: goes})...)
			}
			if has := x.cap(0, 5) != (api.Cap{}); has != goes {
				t.Fatal(n, first, x.cap(0, 5))
			}
		}
	}
}

// TestNotices: P17.6: bits are gathered, and taken; who waits is woken, the first one first.
func TestNotices(t *testing.T) {
	x := set(t, 4, 20, 1024, 1)
	x.ok(0, retype(to(0), to(2), api.TyNotice, 0), mint(to(2), to(3), api.Write, 5), mint(to(2), to(4), api.Write, 65535), mint(to(2), to(5), api.Read, 8), mint(to(2), to(6), 2, 2))
	word := func(want int64) {
		t.Helper()
		if p := x.s.Ports[4]; p.Word != want || p.Kind != 0 || len(p.Queue) != 0 {
			t.Fatal(p)
		}
	}
	x.ok(0, signal(to(3)))
	word(5)
	x.ok(1, signal(to(3)), signal(to(6)))
	word(7)
	x.ok(1, signal(to(2)))
	word(7 | bare)
	x.does(3, wait(to(5)), one(3, api.Reply{Value: 7 | bare})...)
	word(0)
	x.ok(0, signal(to(4)))
	word(65535)
	x.does(0, wait(to(2)), one(0, api.Reply{Value: 65535})...)
	x.does(3, wait(to(5)))
	x.does(1, wait(to(2)))
	x.waiting(4, 2, api.Waiter{Core: 3}, api.Waiter{Core: 1})
	x.does(0, signal(to(2)), both(0, api.Reply{}, 3, api.Reply{Value: bare})...)
	x.does(3, signal(to(3)), both(3, api.Reply{}, 1, api.Reply{Value: 5})...)
	word(0)
	x.ok(0, signal(to(6)))
	word(2)
	x.refused(0, signal(to(5)), api.ErrRights)
	x.refused(0, wait(to(3)), api.ErrRights)
	x.ok(0, retype(to(0), to(7), api.TyNotice, 0)) // another one has its own
	x.does(0, wait(to(7)))
	x.does(1, wait(to(5)), one(1, api.Reply{Value: 2})...)
	word(0)
}

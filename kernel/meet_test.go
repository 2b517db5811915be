package kernel

import (
	"slices"
	"testing"

	"garrison/api"
)

// TestWaits: P19.3: who meets nobody waits, holds nothing, and has nothing to do until it is met; then it has its reply, and leaves.
func TestWaits(t *testing.T) {
	for _, first := range []struct {
		waits, meets  api.Call
		waiter, other api.Reply
	}{
		{recv(to(1), 0), send(to(1), -7, 0), api.Reply{Value: -7}, api.Reply{}},
		{send(to(1), 8, 0), recv(to(1), 0), api.Reply{}, api.Reply{Value: 8}},
		{recv(to(1), to(3)), send(to(1), 9, to(0)), api.Reply{Value: 9, Cap: true}, api.Reply{Cap: true}},
		{send(to(1), 1, to(0)), recv(to(1), to(3)), api.Reply{Cap: true}, api.Reply{Value: 1, Cap: true}},
		{send(to(1), 1, to(0)), recv(to(1), 0), api.Reply{}, api.Reply{Value: 1}},
		{recv(to(1), to(2)), send(to(1), 9, 0), api.Reply{Value: 9}, api.Reply{}},
		{recv(to(1), to(2)), send(to(1), 9, to(0)), api.Reply{Value: 9}, api.Reply{}}, // 2 has something by then
		{wait(to(2)), signal(to(2)), api.Reply{Value: 1 << 20}, api.Reply{}},
	} {
		x := set(t, 2, 9, 1024, 1)
		if first.waits != recv(to(1), to(2)) || first.meets != send(to(1), 9, 0) {
			x.ok(1, retype(to(0), to(2), api.TyNotice, 0))
		}
		x.load(0, first.waits, look(0))
		x.until(0, api.CoWait)
		x.is(0, api.CoWait)
		for range 3 {
			if x.step(0) || x.k.Run(0, 0) != 0 {
				t.Fatal("it waits")
			}
		}
		x.load(1, first.meets)
		for e := x.act(1); !slices.Equal(e.Replies, []api.Done{{Core: 1, Reply: first.other}, {Core: 0, Reply: first.waiter}}); {
			t.Fatalf("%+v", e)
		}
		x.is(0, api.CoLeave)
		if s := x.last(0); s.End != 0 {
			t.Fatal(s)
		}
		x.steps(0, 1)
		x.is(0, api.CoIdle)
		if s := x.last(0); s.Reply != first.waiter || s.End != x.k.Now() || x.k.Left(0) != 1 {
			t.Fatal(s)
		}
		x.until(1, api.CoIdle)
		if s := x.last(1); s.Reply != first.other {
			t.Fatal(s)
		}
		if got := x.k.State().Nodes[0][3] != (api.Cap{}); got != first.other.Cap {
			t.Fatal(x.k.State().Nodes)
		}
		x.rounds()
	}
}

// TestBitsAreThere: who waits at a notice with bits does not wait.
func TestBitsAreThere(t *testing.T) {
	x := set(t, 2, 9, 1024, 1)
	x.ok(0, retype(to(0), to(2), api.TyNotice, 0), mint(to(2), to(3), 15, 5))
	x.ok(1, signal(to(3)), signal(to(2)))
	x.does(0, wait(to(2)), api.Reply{Value: 1<<20 | 5})
	x.load(0, wait(to(2)))
	x.rounds()
	x.is(0, api.CoWait)
	x.ok(1, signal(to(3)))
	x.rounds()
	if x.last(0).Reply != (api.Reply{Value: 5}) {
		t.Fatal(x.last(0))
	}
}

// TestMetWhileItLetsGo: its reply comes by another core's event when it has not let all go yet: it goes on, and leaves then.
func TestMetWhileItLetsGo(t *testing.T) {
	for _, l := range [][2]api.Call{{recv(to(1), 0), send(to(1), 7, 0)}, {send(to(1), 7, 0), recv(to(1), 0)}} {
		x := set(t, 2, 9, 1024, 2) // nodes 0 and 1, the endpoint 4
		x.load(0, l[0])
		x.load(1, l[1])
		x.act(0)
		x.is(0, api.CoUnlock, 0, 1, 2, 10, 36)
		x.steps(1, 4)
		x.is(1, api.CoLock, 9)
		x.steps(0, 2)
		x.is(0, api.CoUnlock, 0, 1, 2)
		x.act(1)
		x.is(1, api.CoUnlock, 9, 10, 11, 36)
		x.steps(0, 1)
		x.is(0, api.CoUnlock, 0, 1)
		if s := x.last(0); s.End != 0 {
			t.Fatal(s)
		}
		x.steps(0, 2)
		x.is(0, api.CoLeave)
		x.steps(0, 1)
		value := api.Reply{}
		if l[0].Kind == api.CaRecv {
			value.Value = 7
		}
		if s := x.last(0); s.Reply != value || s.End == 0 {
			t.Fatal(s)
		}
		x.rounds()
	}
}

// TestGone: who waits at what dies is answered ErrGone, all of them; whose call that was has the place.
func TestGone(t *testing.T) {
	x := set(t, 4, 9, 1024, 1)
	for core := range 3 {
		x.load(core, send(to(1), int64(core), to(0)), look(0))
		x.until(core, api.CoWait)
	}
	x.load(3, erase(to(1)))
	gone := api.Reply{Code: 80}
	if e := x.act(3); !slices.Equal(e.Replies, []api.Done{{Core: 3}, {Core: 0, Reply: gone}, {Core: 1, Reply: gone}, {Core: 2, Reply: gone}}) {
		t.Fatal(e)
	}
	x.waits(3, []int{2}, api.Waste{Obj: 2, Epoch: 1})
	for core := range 3 {
		x.is(core, api.CoLeave)
		x.steps(core, 1)
		x.is(core, api.CoIdle)
		if s := x.last(core); s.Reply != gone {
			t.Fatal(s)
		}
	}
	x.rounds()
	x.waits(3, nil)
}

// TestOneAhead: several wait: the first is met first, the others go on waiting.
func TestOneAhead(t *testing.T) {
	x := set(t, 4, 9, 1024, 2)
	for _, core := range []int{2, 0, 3} {
		x.load(core, recv(to(1), 0))
		x.until(core, api.CoWait)
	}
	for i, core := range []int{2, 0, 3} {
		x.load(1, send(to(1), int64(i+1), 0))
		x.rounds()
		x.is(core, api.CoIdle)
		if s := x.last(core); s.Reply != (api.Reply{Value: int64(i + 1)}) {
			t.Fatal(s)
		}
	}
	x.load(0, recv(to(1), 0))
	x.load(1, recv(to(1), 0))
	x.rounds() // nobody sends: both wait for good
	x.is(0, api.CoWait)
	x.is(1, api.CoWait)
	if !slices.Equal(x.codes(0), []api.Errno{0, -1}) || !slices.Equal(x.codes(1), []api.Errno{0, 0, 0, -1}) {
		t.Fatal(x.codes(0), x.codes(1))
	}
}

// TestAcross: a capability goes from one domain to another, and can be revoked where it came from.
func TestAcross(t *testing.T) {
	x := set(t, 2, 12, 1024, 2)
	x.ok(0, retype(to(0), to(2), api.TyFrame, 0), write(to(2), 42))
	x.load(1, recv(to(1), to(5)), read(to(5)))
	x.load(0, send(to(1), 3, to(2)))
	x.rounds()
	x.does(1, read(to(5)), api.Reply{Value: 42})
	if s := x.k.Hist().Spans; s[len(s)-1].Reply.Value != 42 || x.last(0).Reply != (api.Reply{Cap: true}) {
		t.Fatal(s)
	}
	x.ok(0, revoke(to(2)))
	x.does(1, read(to(5)), api.Reply{Code: 7})
	x.does(0, read(to(2)), api.Reply{Value: 42})
}

// TestMeetsInOrders: who sends, who receives, and one who deletes the endpoint's capabilities, in many orders.
func TestMeetsInOrders(t *testing.T) {
	seen := map[api.Reply]int{}
	orders(func(picks []int) {
		x := set(t, 3, 9, 1024, 3)
		x.load(0, send(to(1), 4, to(0)))
		x.load(1, recv(to(1), to(3)), erase(to(1)))
		x.load(2, erase(to(1)))
		x.run(picks)
		x.rounds()
		for core := range 3 {
			x.load(core, erase(to(1)))
		}
		x.rounds()
		seen[x.k.Hist().Spans[0].Reply]++
		seen[x.k.Hist().Spans[1].Reply]++
	})
	if len(seen) < 2 {
		t.Fatal("too few", seen)
	}
}

package kernel

import (
	"slices"
	"testing"

	"garrison/api"
)

// grown is a kernel of which four are below slot 0: 4, 2, and 3, 5 below 2; beside them there is slot 1.
func grown(t *testing.T, cores int) *scene {
	t.Helper()
	x := set(t, cores, 12, 1024, 1)
	x.ok(0, mint(to(0), to(2), 15, 0), mint(to(2), to(5), 15, 0), mint(to(2), to(3), 15, 0), mint(to(0), to(4), 15, 0))
	x.branches("0 4 2 3 5 1", "0 1 1 2 2 0", "")
	return x
}

// branches asks for the slots of the tree's branches, in order, how deep they are, and which of them are marked.
func (x *scene) branches(slots, depths, marked string) {
	x.t.Helper()
	var a, b, c []byte
	for _, one := range x.k.State().Tree {
		a = append(a, byte('0'+one.Key.Slot), ' ')
		b = append(b, byte('0'+one.Depth), ' ')
		if one.Mark {
			c = append(c, byte('0'+one.Key.Slot), ' ')
		}
	}
	cut := func(l []byte) string { return string(l[:max(0, len(l)-1)]) }
	if cut(a) != slots || depths != "" && cut(b) != depths || cut(c) != marked {
		x.t.Fatalf("the tree is %s, %s; marked: %s", a, b, c)
	}
}

// TestRevokes: P19.3, P19.4: a revocation's events, and which locks each of them has.
func TestRevokes(t *testing.T) {
	x := grown(t, 1)
	c := revoke(to(0))
	x.load(0, c)
	start := x.k.Now() + 1
	n := len(x.k.Hist().Events)
	for i, one := range []struct {
		held   []int // node 0, its slots, untyped 1
		slots  string
		marked string
	}{
		{[]int{0, 1, 2, 5, 9}, "0 4 2 3 5 1", ""},
		{[]int{0, 1, 3, 5, 9}, "0 4 2 3 5 1", "4"},
		{[]int{0, 1, 3, 4, 5, 9}, "0 4 2 3 5 1", "4 2"},
		{[]int{0, 1, 3, 4, 6, 9}, "0 4 2 3 5 1", "4 2 3"},
		{[]int{0, 1, 2, 4, 6, 9}, "0 4 2 3 5 1", "4 2 3 5"},
		{[]int{0, 1, 2, 4, 6, 9}, "0 4 2 3 1", "4 2 3"},
		{[]int{0, 1, 2, 3, 4, 9}, "0 4 2 1", "4 2"},
		{[]int{0, 1, 2, 3, 5, 9}, "0 4 1", "4"},
		{[]int{0, 1, 2, 5, 9}, "0 1", ""},
		{[]int{0, 1}, "0 1", ""},
	} {
		x.until(0, api.CoPlan)
		x.steps(0, 1)
		x.is(0, api.CoLock)
		x.steps(0, len(one.held))
		x.is(0, api.CoLock, one.held...)
		want := api.Event{Kind: min(i, 1) + 1, Core: 0, Call: c, Stamp: x.k.Now() + 1}
		if i == 9 {
			want.Replies = []api.Done{{}}
		}
		x.steps(0, 1)
		x.is(0, api.CoUnlock, one.held...)
		x.branches(one.slots, "", one.marked)
		if h := x.k.Hist(); len(h.Events) != n+i+1 || !likeEvent(h.Events[n+i], want) || h.Spans[len(h.Spans)-1].End != 0 {
			t.Fatalf("%+v, not %+v", h.Events[len(h.Events)-1], want)
		}
		if s := x.k.State().Sweeps[0]; s.On != (i < 9) {
			t.Fatal(i, s)
		}
		x.steps(0, len(one.held)-1)
	}
	x.is(0, api.CoUnlock, 0)
	x.steps(0, 1)
	x.is(0, api.CoLeave)
	x.steps(0, 1)
	if s := x.last(0); s != (api.Span{Call: c, Start: start, End: x.k.Now()}) {
		t.Fatal(s)
	}
	x.rounds()
}

// TestRevokesNothing: what nothing was derived from; what is refused when it begins.
func TestRevokesNothing(t *testing.T) {
	x := grown(t, 1)
	x.load(0, revoke(to(4)), revoke(to(7)), revoke(to(4, 1)))
	x.rounds()
	var kinds []int
	for _, e := range x.k.Hist().Events[4:] {
		kinds = append(kinds, e.Kind)
	}
	if !slices.Equal(kinds, []int{1, 2, 1, 1}) || !slices.Equal(x.codes(0)[4:], []api.Errno{0, 7, 120}) {
		t.Fatal(kinds, x.codes(0))
	}
}

// TestRevokesAcross: a turn has the locks of other nodes, too, in which the slots lie, and of what is at the slot.
func TestRevokesAcross(t *testing.T) {
	x := set(t, 2, 12, 1024, 1) // 4, 6, 8, 10 for core 0, 3, 5 .. for core 1
	x.ok(0, retype(to(0), to(2), api.TyNode, 0), mint(to(1), to(2, 3), 15, 0), retype(to(0), to(3), api.TyFrame, 0), mint(to(3), to(2, 4), 15, 0))
	x.load(0, revoke(to(1)))
	x.act(0)
	x.act(0)
	x.is(0, api.CoUnlock, 0, 2, 18, 36, 40) // the last branch: 1, and below it 4/3; there the endpoint is
	x.rounds()
	x.load(0, revoke(to(3)))
	x.act(0)
	x.act(0)
	x.is(0, api.CoUnlock, 0, 3, 4, 36, 41, 54) // 3, below it 4/4, behind it 2; there the frame 6 is
	x.act(0)
	x.is(0, api.CoUnlock, 0, 3, 4, 36, 41, 54)
	x.act(0)
	x.is(0, api.CoUnlock, 0, 4)
	x.rounds()
}

// TestDeriveBelow: others derive below it, from what is not marked yet: that is revoked too; from what is marked they can't.
func TestDeriveBelow(t *testing.T) {
	x := grown(t, 2)
	x.load(0, revoke(to(0)))
	x.act(0)
	x.act(0) // 4
	x.act(0) // 2
	x.branches("0 4 2 3 5 1", "", "4 2")
	x.until(0, api.CoPlan)
	x.does(1, mint(to(2), to(6), 15, 0), api.Reply{Code: 170})
	x.does(1, mint(to(0), to(6), 15, 0), api.Reply{Code: 170})
	x.ok(1, mint(to(5), to(6), 15, 0), mint(to(3), to(7), 15, 0))
	x.branches("0 4 2 3 7 5 6 1", "0 1 1 2 3 2 3 0", "4 2")
	x.rounds()
	x.branches("0 1", "0 0", "")
	if x.last(0).Reply != (api.Reply{}) {
		t.Fatal(x.last(0))
	}
}

// TestDeriveBehindThePlan: another one derives, or deletes, behind what the turn would mark when it has planned: it looks again.
func TestDeriveBehindThePlan(t *testing.T) {
	x := grown(t, 2)
	x.load(0, revoke(to(2)))
	x.act(0)
	x.until(0, api.CoPlan)
	x.steps(0, 1)
	x.ok(1, erase(to(3)))
	n := len(x.k.Hist().Events)
	x.until(0, api.CoUnlock)
	x.is(0, api.CoUnlock, 0, 3, 4, 6, 9) // 2 is before 3, 5 behind it
	if len(x.k.Hist().Events) != n {
		t.Fatal("it turns without a lock")
	}
	x.until(0, api.CoPlan)
	x.act(0)
	x.is(0, api.CoUnlock, 0, 2, 3, 6, 9) // 5, and behind it 1
	x.rounds()
	x.branches("0 4 2 1", "", "")
}

// TestDeleteTheKey: what is being revoked can't be deleted or moved; by a revocation of what it came from it goes, and then its own is answered ErrGone.
func TestDeleteTheKey(t *testing.T) {
	x := grown(t, 3)
	x.load(1, revoke(to(2)))
	x.act(1)
	x.until(1, api.CoPlan)
	x.does(2, erase(to(2)), api.Reply{Code: 170})
	x.does(2, move(to(2), to(6)), api.Reply{Code: 170})
	x.does(2, revoke(to(2)), api.Reply{Code: 170})
	x.ok(2, revoke(to(0)))
	x.branches("0 1", "", "")
	if s := x.k.State().Sweeps[1]; !s.On || !s.Lost {
		t.Fatal(s)
	}
	x.ok(2, mint(to(1), to(2), 15, 0), mint(to(2), to(3), 15, 0)) // another one lies there now, with one below it
	x.steps(1, 1)
	x.steps(1, 2)
	x.is(1, api.CoLock, 0, 3)
	e := x.act(1)
	if e.Kind != api.EvTurn || !slices.Equal(e.Replies, []api.Done{{Core: 1, Reply: api.Reply{Code: 80}}}) {
		t.Fatal(e)
	}
	x.rounds()
	x.branches("0 1 2 3", "0 0 1 2", "")
}

// TestRevokesInOrders: two who revoke one below the other, and one who derives, in many orders: P19.7; nothing is left (scene asks its ghost, too).
func TestRevokesInOrders(t *testing.T) {
	ends := map[api.Errno]int{}
	for seed := range 90 {
		d := dice(seed)
		x := grown(t, 3)
		x.load(0, revoke(to(0)))
		x.load(1, revoke(to(2)))
		x.load(2, mint(to(5), to(6), 15, 0), mint(to(4), to(7), 15, 0))
		if seed%3 == 0 { // core 1 has begun, and is slow
			x.act(1)
			x.until(1, api.CoPlan)
			for range d.upTo(400) {
				x.step(d.one(0, 0, 2))
			}
		}
		x.run(d.picks(3, 20+d.upTo(200)))
		x.rounds()
		left := []api.Errno{x.codes(0)[4], x.last(1).Reply.Code, x.codes(2)[0], x.codes(2)[1]}
		if left[0] != api.OK {
			t.Fatal(seed, left)
		}
		for i, e := range left {
			ends[e+api.Errno(1000*i)]++
		}
		for _, b := range x.k.State().Tree {
			if b.Mark || b.Depth > 0 {
				t.Fatal(seed, x.k.State().Tree)
			}
		}
	}
	for _, e := range []api.Errno{0, 1000, 1080, 1170, 2000, 2170, 3000, 3170} {
		if ends[e] == 0 {
			t.Fatal("too few", ends)
		}
	}
}

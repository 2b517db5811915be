package grant

import (
	"slices"
	"testing"

	"garrison/api"
	"garrison/ghost"
)

// befell are the things that befell slots: as the call and the replies tell, and of revocations, as slots that have nothing any more.
func befell(x stride) []api.Birth {
	a, _ := place(x.s, x.core, x.call.A)
	b, _ := place(x.s, x.core, x.call.B)
	done := slices.ContainsFunc(x.replies, func(d api.Done) bool { return d.Core == x.core && d.Reply.Code == api.OK })
	switch kind := x.call.Kind; {
	case x.kind == api.EvTurn || kind == api.CaRevoke:
		return gone(x.s, x.n)
	case x.kind == api.EvFree || !done:
		return nil
	case kind == api.CaMint || kind == api.CaRetype:
		return []api.Birth{{Kind: api.BiDerive, Key: b, From: a}}
	case kind == api.CaMove:
		return []api.Birth{{Kind: api.BiMove, Key: b, From: a}}
	case kind == api.CaDelete:
		return []api.Birth{{Kind: api.BiDie, Key: a}}
	case kind == api.CaSend && x.replies[0].Reply.Cap:
		return []api.Birth{{Kind: api.BiDerive, Key: toldLent(x.s, x.replies[1].Core)[0], From: b}}
	case kind == api.CaRecv && x.replies[0].Reply.Cap:
		return []api.Birth{{Kind: api.BiDerive, Key: b, From: toldLent(x.s, x.replies[1].Core)[0]}}
	}
	return nil
}

// full are the slots that have something.
func full(s api.State) []api.Key {
	var l []api.Key
	for obj, node := range s.Nodes {
		for i, c := range node {
			if anything(c) {
				l = append(l, key(obj, i))
			}
		}
	}
	return l
}

func gone(s, n api.State) []api.Birth {
	var l []api.Birth
	for _, k := range full(s) {
		if nothing(toldAt(n, k)) {
			l = append(l, api.Birth{Kind: api.BiDie, Key: k})
		}
	}
	return l
}

// haunted is what befell slots, until now.
type haunted struct {
	g  api.Ghost
	by map[int]int // of each core that revokes: who is in its slot
}

// see has what befell slots added. Who was derived, and from whom, is told by that alone.
func (x *haunted) see(t *testing.T, one stride) {
	t.Helper()
	for _, b := range befell(one) {
		g, e := ghost.Add(x.g, b)
		if e != api.OK {
			t.Fatal(b, e)
		}
		x.g = g
	}
	is := slices.Clone(x.g.Keys)
	slices.SortFunc(is, func(a, b api.Key) int { return a.Obj*8 + a.Slot - b.Obj*8 - b.Slot })
	if !slices.Equal(is, full(one.n)) {
		t.Fatalf("who is where: %v, not %v", is, full(one.n))
	}
}

// descend are the slots with what descends from that one.
func (x *haunted) descend(id int) []api.Key {
	var l []api.Key
	for i, k := range x.g.Keys {
		if slices.Contains(ghost.Above(x.g, x.g.Ids[i]), id) {
			l = append(l, k)
		}
	}
	return l
}

// haunt has what befalls slots gone along with, and asked for what P1 says.
func (x *watch) haunt() {
	x.t.Helper()
	h := haunted{by: map[int]int{}}
	for _, k := range full(x.s) {
		h.g, _ = ghost.Add(h.g, api.Birth{Kind: api.BiRoot, Key: k})
	}
	x.each = func(one stride) {
		h.see(x.t, one)
		switch one.kind {
		case api.EvBegin:
			h.begins(one, x.seen)
		case api.EvTurn:
			h.turns(x.t, one, x.seen)
		}
	}
}

// TestRevokedIsGone: P1: when a revocation is answered OK, no slot has what descends from its slot.
func TestRevokedIsGone(t *testing.T) {
	seen := map[string]int{}
	for seed := range 120 {
		x := watched(t, seed+1000, seen)
		x.haunt()
		x.run(4000)
		x.rounds()
	}
	enough(t, seen, 100, "revoked", "derived beside a revocation", "grown", "busy")
}

// TestRevocationsMeet: P1, of revocations of what was derived from one another, beside cores that derive from it, give it away, and move it.
func TestRevocationsMeet(t *testing.T) {
	seen := map[string]int{}
	for seed := range 150 {
		d := dice(seed*31337 + 3)
		x := watchedOf(t, &d, 6+d.upTo(24), 1, seen)
		x.haunt()
		x.k.Load(0, retype(0, api.TyFrame, 2).call, mint(0, by(2), by(3), 7, 0).call, mint(0, by(3), by(4), 7, 0).call, mint(0, by(4), by(5), 7, 0).call)
		x.rounds()
		for core := range x.cores {
			for range 6 {
				a, b := 2+d.upTo(5), 3+d.upTo(5)
				x.load(core, 2, revoke(core, a), revoke(core, a), mint(core, by(a), by(b), 7, 0), mint(core, by(a), by(b), 7, 0), move(core, by(a), by(b)), erase(core, b))
			}
			x.load(core, core%3, send(core, 2), recv(core, 6), send(core, 4))
		}
		x.loaded(3000)
	}
	enough(t, seen, 100, "revoked", "derived beside a revocation", "grown", "busy")
	enough(t, seen, 30, "lost")
}

func (x *haunted) begins(one stride, seen map[string]int) {
	if sweep := one.n.Sweeps[one.core]; sweep.On {
		id, _ := ghost.Who(x.g, sweep.Key)
		x.by[one.core] = id
		if len(x.descend(id)) > 1 {
			seen["revoked"]++
		}
	}
}

// turns is asked of each turn of a revocation.
func (x *haunted) turns(t *testing.T, one stride, seen map[string]int) {
	t.Helper()
	id, k := x.by[one.core], one.s.Sweeps[one.core].Key
	if len(one.replies) == 0 || one.replies[0].Core != one.core {
		if len(gone(one.s, one.n)) == 0 && len(x.descend(id)) > 1 {
			seen["grown"]++
		}
		return
	}
	switch one.replies[0].Reply.Code {
	case api.OK:
		if now, ok := ghost.Who(x.g, k); now != id || !ok {
			t.Fatal("another one in its slot", k)
		}
		for _, other := range x.g.Keys {
			if ghost.Descends(x.g, other, k) {
				t.Fatalf("%v is left of %v", other, k)
			}
		}
		if l := x.descend(id); len(l) > 0 {
			t.Fatal("left", l)
		}
	case api.ErrGone:
		seen["lost"]++
	}
}

package model

import (
	"slices"
	"testing"

	"garrison/addr"
	"garrison/api"
)

// family is a kernel of one domain, with a frame at 2, copies of it at 3 and 5, and one of that at 3 at 4: 2 above 5 and 3, 3 above 4.
func family(t *testing.T, cores int) *scene {
	t.Helper()
	x := set(t, cores, 30, 4096, 1)
	x.ok(0, retype(to(0), to(2), api.TyFrame, 0), mint(to(2), to(3), 15, 0), mint(to(3), to(4), 15, 0), mint(to(2), to(5), 15, 0))
	x.tree(twig(0, 0, 0), twig(0, 2, 1), twig(0, 5, 2), twig(0, 3, 2), twig(0, 4, 3), twig(0, 1, 0))
	return x
}

// TestRevoke: P17.2, P17.7, P17.10: at once, or by Begin and Turn: all that was derived is gone, what it was derived from is as it was.
func TestRevoke(t *testing.T) {
	x := family(t, 2)
	y := *x
	x.ok(0, revoke(to(2)))
	x.tree(twig(0, 0, 0), twig(0, 2, 1), twig(0, 1, 0))
	x.refs(4, 2, 1)
	x.limbo(0)
	x.ok(0, revoke(to(2)), revoke(to(1))) // there is nothing below it
	y.begins(0, revoke(to(2)))
	if !slices.Equal(y.s.Sweeps, []api.Sweep{{On: true, Key: key(0, 2)}, {}}) {
		t.Fatal(y.s.Sweeps)
	}
	for n, want := range [][]api.Branch{
		{marked(twig(0, 5, 2)), twig(0, 3, 2), twig(0, 4, 3)}, {marked(twig(0, 5, 2)), marked(twig(0, 3, 2)), twig(0, 4, 3)}, {marked(twig(0, 5, 2)), marked(twig(0, 3, 2)), marked(twig(0, 4, 3))},
		{marked(twig(0, 5, 2)), marked(twig(0, 3, 2))}, {marked(twig(0, 5, 2))}, {},
	} {
		y.turns(0)
		y.tree(slices.Concat([]api.Branch{twig(0, 0, 0), twig(0, 2, 1)}, want, []api.Branch{twig(0, 1, 0)})...)
		if n < 5 {
			y.does(0, look(to(0))) // it is not answered yet
		}
	}
	y.turns(0, code(0, api.OK)...)
	y.is(x.s)
	y.turns(0)
	y.is(x.s)
}

// TestRevokeMeanwhile: P17.7: others derive, move and take away while a revocation goes on; it has all of that in the end.
func TestRevokeMeanwhile(t *testing.T) {
	x := family(t, 3)
	x.begins(2, revoke(to(2)))
	x.turns(2) // 5 is marked
	x.refused(0, mint(to(5), to(7), 1, 0), api.ErrBusy)
	x.ok(0, mint(to(3), to(6), 15, 0), move(to(4), to(7)), mint(to(7), to(4), 1, 0), erase(to(4)))
	x.tree(twig(0, 0, 0), twig(0, 2, 1), marked(twig(0, 5, 2)), twig(0, 3, 2), twig(0, 6, 3), twig(0, 7, 3), twig(0, 1, 0))
	x.turns(2)
	x.turns(2)
	x.ok(1, mint(to(7), to(4), 1, 0))
	x.turns(2)
	x.turns(2)
	x.tree(twig(0, 0, 0), twig(0, 2, 1), marked(twig(0, 5, 2)), marked(twig(0, 3, 2)), marked(twig(0, 6, 3)), marked(twig(0, 7, 3)), marked(twig(0, 4, 4)), twig(0, 1, 0))
	for _, c := range []api.Cap{x.cap(0, 4), x.cap(0, 7), x.cap(0, 6), x.cap(0, 3), x.cap(0, 5)} {
		if c.Obj != 3 {
			t.Fatal(c)
		}
		x.turns(2)
	}
	x.turns(2, code(2, api.OK)...)
	x.tree(twig(0, 0, 0), twig(0, 2, 1), twig(0, 1, 0))
	x.ok(0, mint(to(2), to(3), 1, 0))
}

// TestLost: P17.7: of two revocations, one below the other, the upper one takes the lower one's place away: that is answered ErrGone.
func TestLost(t *testing.T) {
	x := family(t, 3)
	x.begins(1, revoke(to(3)))
	x.begins(2, revoke(to(2)))
	x.turns(1) // 4 is marked
	x.turns(2) // 5
	x.turns(2) // 3, though it is being revoked itself
	x.tree(twig(0, 0, 0), twig(0, 2, 1), marked(twig(0, 5, 2)), marked(twig(0, 3, 2)), marked(twig(0, 4, 3)), twig(0, 1, 0))
	x.turns(2) // 4 is gone
	y := *x
	y.turns(1, code(1, api.OK)...) // the lower one has nothing left to do
	y.tree(twig(0, 0, 0), twig(0, 2, 1), marked(twig(0, 5, 2)), marked(twig(0, 3, 2)), twig(0, 1, 0))
	y.refused(0, mint(to(3), to(4), 1, 0), api.ErrBusy)
	x.turns(2) // 3 is gone
	if !slices.Equal(x.s.Sweeps, []api.Sweep{{}, {On: true, Key: key(0, 3), Lost: true}, {On: true, Key: key(0, 2)}}) {
		t.Fatal(x.s.Sweeps)
	}
	x.does(1, look(to(0))) // it is not answered yet
	x.begins(1, revoke(to(0)))
	x.ok(0, retype(to(0), to(3), api.TyFrame, 0), mint(to(3), to(4), 1, 0)) // another one is there: it is not busy
	x.begins(0, revoke(to(3)))
	x.turns(0)
	x.turns(0)
	x.turns(0, code(0, api.OK)...)
	x.turns(1, code(1, api.ErrGone)...)
	x.has(0, 3, api.Cap{Type: api.TyFrame, Rights: 15, Obj: 6})
	if x.s.Sweeps[1] != (api.Sweep{}) {
		t.Fatal(x.s.Sweeps)
	}
	x.turns(1)
	x.turns(2)
	x.turns(2, code(2, api.OK)...)
	x.tree(twig(0, 0, 0), twig(0, 3, 1), twig(0, 2, 1), twig(0, 1, 0))
}

// filled is a kernel in which core 2's limbo has seven, and a frame at 2 with a copy at 3, a frame of its own at each of 4 and 5 below the untyped one at 6, and that's copy at 7.
func filled(t *testing.T) *scene {
	t.Helper()
	x := set(t, 4, 60, 4096, 1)
	for range 7 {
		x.ok(2, retype(to(0), to(2), api.TyFrame, 0), erase(to(2)))
	}
	x.ok(0, retype(to(0), to(6), api.TyUntyped, 256), mint(to(6), to(7), 15, 0), retype(to(7), to(4), api.TyFrame, 0), retype(to(6), to(5), api.TyFrame, 0), mint(to(5), to(3), 15, 0))
	x.tree(twig(0, 0, 0), twig(0, 6, 1), twig(0, 5, 2), twig(0, 3, 3), twig(0, 7, 2), twig(0, 4, 3), twig(0, 1, 0))
	return x
}

// TestRevokeLimbo: P17.7: with too many in limbo it ends in the midst: what is left is not marked any more.
func TestRevokeLimbo(t *testing.T) {
	x := filled(t)
	y := *x
	x.does(2, revoke(to(6)), code(2, api.ErrLimbo)...)
	left := []api.Branch{twig(0, 0, 0), twig(0, 6, 1), twig(0, 5, 2), twig(0, 1, 0)} // the frame at 4, and the copies at 7 and 3 are gone
	x.tree(left...)
	if len(x.s.Limbo[2]) != 8 || x.s.Sweeps[2] != (api.Sweep{}) {
		t.Fatal(x.s.Limbo, x.s.Sweeps)
	}
	x.ok(2, read(to(5)))
	x.does(2, revoke(to(6)), code(2, api.ErrLimbo)...)
	x.tree(left...)
	x.ok(0, revoke(to(6))) // another core's limbo has room
	x.tree(twig(0, 0, 0), twig(0, 6, 1), twig(0, 1, 0))

	y.begins(2, revoke(to(6)))
	for range 4 + 3 {
		y.turns(2)
	}
	y.tree(twig(0, 0, 0), twig(0, 6, 1), marked(twig(0, 5, 2)), twig(0, 1, 0))
	z := y
	y.turns(2, code(2, api.ErrLimbo)...)
	y.tree(left...)
	y.ok(0, mint(to(5), to(3), 1, 0))
	z.frees(2, 6)
	z.turns(2)
	z.turns(2, code(2, api.OK)...)
	z.limbo(2, append(slices.Clone(y.s.Limbo[2][1:]), y.cap(0, 5).Obj)...)
}

// TestUnmark: P17.7: marks stay that are another revocation's too: of an upper one all, of a lower one what is below that.
func TestUnmark(t *testing.T) {
	// Core 2, whose limbo is full, ends in the midst.
	begin := func() *scene {
		x := filled(t)
		x.ok(2, retype(to(0), to(2), api.TyFrame, 0), erase(to(2)))
		return x
	}
	turn := func(x *scene, core, n int) {
		t.Helper()
		for range n {
			x.turns(core)
		}
	}
	all := []api.Branch{marked(twig(0, 5, 2)), marked(twig(0, 3, 3)), marked(twig(0, 7, 2)), marked(twig(0, 4, 3))}
	within := func(l ...api.Branch) []api.Branch {
		return slices.Concat([]api.Branch{twig(0, 0, 0), twig(0, 6, 1)}, l, []api.Branch{twig(0, 1, 0)})
	}
	x := begin()
	x.begins(2, revoke(to(6)))
	turn(x, 2, 4)
	x.tree(within(all...)...)
	x.turns(2, code(2, api.ErrLimbo)...)
	x.tree(within(twig(0, 5, 2), twig(0, 3, 3), twig(0, 7, 2), twig(0, 4, 3))...) // nobody else's

	x = begin()
	x.begins(1, revoke(to(5)))
	x.begins(3, revoke(to(7)))
	x.begins(2, revoke(to(6)))
	turn(x, 2, 4)
	x.turns(2, code(2, api.ErrLimbo)...)
	x.tree(within(twig(0, 5, 2), all[1], twig(0, 7, 2), all[3])...) // those below the two lower ones'
	turn(x, 1, 1)
	x.turns(1, code(1, api.OK)...)
	x.refused(0, erase(to(4)), api.ErrBusy)
	x.refused(0, erase(to(7)), api.ErrBusy)
	turn(x, 3, 1)
	x.turns(3, code(3, api.OK)...)

	x = begin()
	x.begins(2, revoke(to(7)))
	x.begins(1, revoke(to(6)))
	x.begins(0, revoke(to(1))) // it has no part in it
	turn(x, 1, 2)
	turn(x, 2, 1)
	x.turns(2, code(2, api.ErrLimbo)...)
	x.tree(within(all[0], all[1], twig(0, 7, 2), all[3])...) // it is below the upper one's, and stays marked
	turn(x, 1, 1)
	x.tree(within(all...)...)

	x = begin() // a lower one that is lost keeps nothing
	x.ok(0, mint(to(3), to(2), 15, 0))
	x.begins(1, revoke(to(3)))
	x.begins(3, revoke(to(5)))
	turn(x, 3, 2)
	turn(x, 3, 2) // what is at 2 and 3 is gone
	if !x.s.Sweeps[1].Lost {
		t.Fatal(x.s.Sweeps)
	}
	x.turns(3, code(3, api.OK)...)
	x.ok(0, mint(to(5), to(3), 15, 0), mint(to(3), to(2), 15, 0))
	x.begins(2, revoke(to(6)))
	turn(x, 2, 5)
	x.turns(2, code(2, api.ErrLimbo)...)
	x.tree(within(twig(0, 5, 2), twig(0, 3, 3), twig(0, 2, 4), twig(0, 7, 2), twig(0, 4, 3))...)
	x.turns(1, code(1, api.ErrGone)...)
}

// TestRevokeOneBelow: P17.7: the lower one ends ahead of the upper one; marks of the upper one stay until it ends.
func TestRevokeOneBelow(t *testing.T) {
	x := family(t, 3)
	x.begins(2, revoke(to(2)))
	x.begins(1, revoke(to(3)))
	x.refused(0, revoke(to(3)), api.ErrBusy)
	x.turns(1)
	x.turns(1)
	x.turns(1, code(1, api.OK)...)
	x.tree(twig(0, 0, 0), twig(0, 2, 1), twig(0, 5, 2), twig(0, 3, 2), twig(0, 1, 0))
	x.turns(2)
	x.begins(1, revoke(to(5)), code(1, api.ErrBusy)...)
	x.begins(1, revoke(to(2)), code(1, api.ErrBusy)...)
	x.begins(1, revoke(to(0))) // above both
	x.turns(1)                 // 2 is marked
	x.turns(1)                 // 3 is: 5 was
	x.turns(1)                 // 3 is gone
	x.turns(1)                 // 5 is
	x.turns(1)                 // 2 is
	x.limbo(1, 3)
	x.turns(1, code(1, api.OK)...)
	x.turns(2, code(2, api.ErrGone)...)
	x.tree(twig(0, 0, 0), twig(0, 1, 0))
}

// TestFree: P17.7: the first of the core's limbo, one behind the other.
func TestFree(t *testing.T) {
	x := set(t, 2, 12, 1024, 1) // core 0 has the places 4, 6, 8, 10
	x.ok(0, retype(to(0), to(2), api.TyFrame, 0), retype(to(0), to(3), api.TyFrame, 0), retype(to(0), to(4), api.TyFrame, 0), erase(to(3)), erase(to(4)), erase(to(2)))
	x.limbo(0, 6, 8, 4)
	if s, p, ok := Free(x.s, 1); ok || p != 0 || !like(s, x.s) {
		t.Fatal(p, ok)
	}
	for i, p := range []int{6, 8, 4} {
		x.frees(0, p)
		x.limbo(0, []int{6, 8, 4}[i+1:]...)
	}
	if !slices.Equal(x.s.Arena.Free[0], []int{10, 6, 8, 4}) {
		t.Fatal(x.s.Arena.Free)
	}
	if s, p, ok := Free(x.s, 0); ok || p != 0 || !like(s, x.s) {
		t.Fatal(p, ok)
	}
	x.ok(0, retype(to(0), to(2), api.TyFrame, 0), retype(to(0), to(3), api.TyFrame, 0))
	x.has(0, 3, api.Cap{Type: api.TyFrame, Rights: 15, Obj: 6, Gen: 1})
}

// touched has Touch be these keys, and change nothing.
func (x *scene) touched(core int, c api.Call, want ...api.Key) {
	x.t.Helper()
	k := keep(x.s)
	if keys := Touch(k.s, core, c); !slices.Equal(keys, want) || !k.unchanged() {
		x.t.Fatalf("Touch of %+v is %v, not %v", c, keys, want)
	}
}

// TestTouch: P17.8.
func TestTouch(t *testing.T) {
	x := set(t, 2, 20, 1024, 1)
	x.ok(0, retype(to(0), to(2), api.TyNode, 0), retype(to(0), to(2, 3), api.TyFrame, 0), mint(to(2, 3), to(5), 15, 0), mint(to(5), to(6), 15, 0)) // the node 4, the frame 6
	x.tree(twig(0, 0, 0), twig(4, 3, 1), twig(0, 5, 2), twig(0, 6, 3), twig(0, 2, 1), twig(0, 1, 0))
	own := func(obj int) api.Key { return key(obj, -1) }
	x.touched(0, look(to(0)), own(0), key(0, 0), key(0, 1), own(1), key(4, 3)) // the first branch: all others but the last are below it
	x.touched(0, look(to(1)), own(0), key(0, 1), key(0, 2), own(2))            // the last branch
	x.touched(0, look(to(7)), own(0), key(0, 7))                               // nothing is there
	x.touched(0, look(to(2)), own(0), key(0, 1), key(0, 2), key(0, 6), own(4))
	x.touched(0, look(to(2, 3)), own(0), key(0, 0), key(0, 2), key(0, 5), own(4), key(4, 3), own(6)) // behind all below it stands what is on the way
	x.touched(0, look(to(5)), own(0), key(0, 2), key(0, 5), key(0, 6), key(4, 3), own(6))
	x.touched(0, look(to(6)), own(0), key(0, 2), key(0, 5), key(0, 6), own(6))
	x.touched(0, look(to(2, 7)), own(0), key(0, 2), own(4), key(4, 7))
	x.touched(0, look(to(7, 0)))
	for _, c := range []api.Call{erase(to(5)), revoke(to(5)), read(to(5)), write(to(5), 3), send(to(5), 3, 0), recv(to(5), 0), signal(to(5)), wait(to(5)), send(to(5), 3, to(7, 7)), mint(to(5), to(7, 7), 1, 0)} {
		x.touched(1, c, own(0), key(0, 2), key(0, 5), key(0, 6), key(4, 3), own(6))
	}
	for _, c := range []api.Call{mint(to(5), to(2, 7), 15, 9), move(to(5), to(2, 7)), retype(to(5), to(2, 7), 3, 0), send(to(5), 3, to(2, 7)), recv(to(5), to(2, 7))} {
		x.touched(0, c, own(0), key(0, 2), key(0, 5), key(0, 6), key(4, -1), key(4, 3), key(4, 7), own(6))
	}
	x.touched(0, move(to(7), to(0)), own(0), key(0, 0), key(0, 7), key(4, 3))                    // of B neither the object, nor what is behind all below it
	x.touched(0, move(to(7), to(5)), own(0), key(0, 5), key(0, 6), key(0, 7), key(4, 3))         // nor here
	x.touched(0, move(to(7, 1), to(1)), own(0), key(0, 1), key(0, 2))                            // B alone has a place
	x.touched(0, move(to(1), to(1)), own(0), key(0, 1), key(0, 2), own(2))                       // both the same one
	x.touched(0, move(to(6), to(1)), own(0), key(0, 1), key(0, 2), key(0, 5), key(0, 6), own(6)) // the last branch
	x.touched(0, move(to(7), to(2, 3)), own(0), key(0, 0), key(0, 2), key(0, 5), key(0, 7), own(4), key(4, 3))
	x.touched(0, api.Call{Kind: api.CaLook})
	x.touched(0, api.Call{Kind: api.CaMint, A: to(0)})
	x.touched(0, mint(to(0), to(7), 16, 0))
	for _, core := range append([]int{-1, 2, 3}, ends...) {
		x.touched(core, look(to(0)))
	}
	x.ok(0, mint(to(2), to(2, 0), 15, 0))
	guarded, _ := addr.Put(api.Step{Guard: 1, Index: 0})
	x.touched(0, look(guarded))
	x.touched(0, look(to(2, 0, 0, 7)), own(0), key(0, 2), own(4), key(4, 0), key(4, 7))
	x.does(1, recv(to(1), 0)) // who waits touches as ever
	x.touched(1, look(to(7)), own(0), key(0, 7))
}

// TestExample: the chapter's own.
func TestExample(t *testing.T) {
	x := set(t, 1, 5, 1024, 1)
	x.ok(0, retype(to(0), to(2), api.TyFrame, 0))
	x.has(0, 2, api.Cap{Type: api.TyFrame, Rights: 15, Obj: 3})
	x.ok(0, write(to(2), 42))
	x.does(0, read(to(2)), one(0, api.Reply{Value: 42})...)
	x.ok(0, erase(to(2)))
	x.limbo(0, 3)
}

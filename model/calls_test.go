package model

import (
	"math"
	"slices"
	"testing"

	"garrison/api"
)

// TestMint: P17.2: what is derived, where it stands in the tree, who is referred to.
func TestMint(t *testing.T) {
	x := set(t, 1, 9, 1024, 1)
	x.ok(0, retype(to(0), to(2), api.TyFrame, 0), mint(to(2), to(3), api.Read, 0), mint(to(2), to(4), 15, 0), mint(to(3), to(5), 0, 0))
	frame := api.Cap{Type: api.TyFrame, Rights: 15, Obj: 3}
	x.has(0, 2, frame)
	x.has(0, 4, frame)
	frame.Rights = api.Read
	x.has(0, 3, frame)
	frame.Rights = 0
	x.has(0, 5, frame)
	x.tree(twig(0, 0, 0), twig(0, 2, 1), twig(0, 4, 2), twig(0, 3, 2), twig(0, 5, 3), twig(0, 1, 0))
	x.refs(7, 2, 1, 4, 0)
	x.ok(0, mint(to(1), to(6), 3, 65535), mint(to(6), to(7), 1, 0))
	x.has(0, 6, api.Cap{Type: api.TyEndpoint, Rights: 3, Badge: 65535, Obj: 2})
	x.has(0, 7, api.Cap{Type: api.TyEndpoint, Rights: 1, Badge: 65535, Obj: 2})
	x.refs(9, 2, 3, 4, 0)
	for i := range 8 {
		x.refused(0, mint(to(2), to(i), 15, 0), api.ErrThere)
	}
}

// TestMintIntoANode: the node in which B lies is referred to, not that of A.
func TestMintIntoANode(t *testing.T) {
	x := set(t, 1, 9, 1024, 1)
	x.ok(0, retype(to(0), to(2), api.TyNode, 0), mint(to(1), to(2, 7), 15, 1))
	x.refs(4, 2, 2, 2)
	x.has(3, 7, api.Cap{Type: api.TyEndpoint, Rights: 15, Badge: 1, Obj: 2})
	x.ok(0, mint(to(2, 7), to(3), 15, 0))
	x.refs(5, 2, 3, 2)
	x.tree(twig(0, 0, 0), twig(0, 2, 1), twig(0, 1, 0), twig(3, 7, 1), twig(0, 3, 2))
	x.ok(0, mint(to(2), to(2, 0), 15, 0)) // a node's capability in itself
	x.refs(5, 2, 3, 4)
	x.does(0, look(to(2, 0, 0, 7)), one(0, api.Reply{Value: word(t, x.cap(3, 7))})...)
}

// crammed is a kernel of which all 504 slots that there can be have something: 63 nodes, the first eight of which lie in slots of each other.
func crammed(t *testing.T) *scene {
	t.Helper()
	x := set(t, 1, 64, 4096, 1)
	x.ok(0, erase(to(1)))
	x.frees(0, 2)
	nodes := [][]int{{}}
	for n := 0; len(nodes) < 63; n++ {
		at := nodes[0]
		for i := range 8 {
			if place := append(slices.Clone(at), i); len(nodes) < 63 && (len(at) > 0 || i > 0) {
				x.ok(0, retype(to(0), to(place...), api.TyNode, 0))
				nodes = append(nodes, place)
			}
		}
		nodes = append(nodes[1:], at)
	}
	for _, at := range nodes {
		for i := range 8 {
			place := append(slices.Clone(at), i)
			if k, _ := placeOf(x.s, 0, to(place...)); x.cap(k.Obj, k.Slot) == (api.Cap{}) {
				x.ok(0, mint(to(0), to(place...), i, 0))
			}
		}
	}
	return x
}

// TestMintToTheFull: P17.2, P17.9: as many as there can be; then all are taken away again, as many at once as limbo takes.
func TestMintToTheFull(t *testing.T) {
	x := crammed(t)
	if len(x.s.Tree) != 504 {
		t.Fatal(len(x.s.Tree))
	}
	x.refused(0, mint(to(0), to(1), 15, 0), api.ErrThere)
	x.refused(0, retype(to(0), to(1), api.TyFrame, 0), api.ErrThere)
	times := 0
	for done := api.ErrLimbo; done != api.OK; times++ {
		before := len(x.s.Tree)
		s, l := Do(x.s, 0, revoke(to(0)))
		if len(l) != 1 || l[0].Core != 0 || l[0].Reply != (api.Reply{Code: l[0].Reply.Code}) || holds(s) != "" {
			t.Fatal(l, holds(s))
		}
		done = l[0].Reply.Code
		if done == api.ErrLimbo && (len(s.Limbo[0]) != mostLimbo || len(s.Tree) >= before) || done != api.OK && done != api.ErrLimbo {
			t.Fatal(l, s.Limbo)
		}
		x.s = s
		for len(x.s.Limbo[0]) > 0 {
			x.frees(0, x.s.Limbo[0][0])
		}
	}
	x.tree(twig(0, 0, 0))
	x.refs(2, 1, 0)
	if times < 62/mostLimbo || len(x.s.Arena.Free[0]) != 62 {
		t.Fatal(times, x.s.Arena.Free)
	}
}

// TestMove: P17.2: there and back, with what is below it, and into other nodes.
func TestMove(t *testing.T) {
	x := set(t, 1, 9, 1024, 1)
	x.ok(0, retype(to(0), to(2), api.TyNode, 0), retype(to(0), to(3), api.TyFrame, 0), mint(to(3), to(4), 1, 0), mint(to(3), to(5), 1, 0))
	was := x.s
	frame := x.cap(0, 3)
	x.refs(7, 3, 1, 1, 3)
	x.ok(0, move(to(3), to(2, 6)))
	x.has(0, 3, api.Cap{})
	x.has(3, 6, frame)
	x.refs(6, 3, 1, 2, 3)
	x.tree(twig(0, 0, 0), twig(3, 6, 1), twig(0, 5, 2), twig(0, 4, 2), twig(0, 2, 1), twig(0, 1, 0))
	x.refused(0, move(to(3), to(3)), api.ErrNone)
	x.refused(0, erase(to(2, 6)), api.ErrKids)
	x.ok(0, move(to(2, 6), to(2, 7)))
	x.refs(6, 3, 1, 2, 3)
	x.ok(0, move(to(2, 7), to(3)))
	x.is(was)
	x.ok(0, move(to(0), to(7))) // a root
	x.has(0, 7, api.Cap{Type: api.TyUntyped, Rights: 15, Obj: 1})
	x.tree(twig(0, 7, 0), twig(0, 3, 1), twig(0, 5, 2), twig(0, 4, 2), twig(0, 2, 1), twig(0, 1, 0))
	x.ok(0, retype(to(7), to(0), api.TyFrame, 0), move(to(2), to(2, 0)))
	x.refs(7, 4, 1, 2, 3, 1)
	x.refused(0, look(to(2, 0)), api.ErrAddr) // nobody comes to that node any more, which lives by itself
}

// TestDelete: P17.2, P17.4: what is taken away, and what dies of it.
func TestDelete(t *testing.T) {
	x := set(t, 2, 9, 1024, 1) // the places 4, 6, 8 for core 0, 3, 5, 7 for core 1
	x.ok(0, retype(to(0), to(2), api.TyFrame, 0), write(to(2), 5), mint(to(2), to(3), 1, 0))
	x.refused(0, erase(to(2)), api.ErrKids)
	x.refused(0, erase(to(0)), api.ErrKids)
	x.ok(1, erase(to(3)))
	x.limbo(0)
	x.limbo(1)
	x.refs(4, 2, 1, 0, 1)
	x.tree(twig(0, 0, 0), twig(0, 2, 1), twig(0, 1, 0))
	x.ok(1, erase(to(2))) // for core 1, whose limbo has it then
	x.has(0, 2, api.Cap{})
	x.limbo(0)
	x.limbo(1, 4)
	x.thing(4, api.Thing{Gen: 1, From: -1})
	x.refs(3, 1, 1, 0, 0)
	x.tree(twig(0, 0, 0), twig(0, 1, 0))
	x.frees(1, 4)
	if !slices.Equal(x.s.Arena.Free[1], []int{3, 5, 7, 4}) || !slices.Equal(x.s.Arena.Free[0], []int{6, 8}) {
		t.Fatal(x.s.Arena.Free)
	}
	x.ok(0, erase(to(1)), erase(to(0))) // what New has made dies too
	x.limbo(0, 2, 1)
	x.refs(1, 0, 0)
	x.tree()
	x.thing(1, api.Thing{Gen: 1, From: -1})
	x.refused(0, erase(to(0)), api.ErrNone)
}

// TestDeleteNode: a node dies when it is named no more, and has nothing.
func TestDeleteNode(t *testing.T) {
	x := set(t, 1, 9, 1024, 1)
	x.ok(0, retype(to(0), to(2), api.TyNode, 0), mint(to(1), to(2, 3), 15, 0), erase(to(2)))
	x.limbo(0)
	x.refs(3, 2, 2, 1)
	if len(x.s.Nodes[3]) != 8 || x.s.Arena.Things[3].Type != api.TyNode {
		t.Fatal(x.s.Nodes)
	}
	x.ok(0, revoke(to(1)))
	x.limbo(0, 3)
	x.refs(3, 1, 1, 0)
	if len(x.s.Nodes[3]) != 0 {
		t.Fatal(x.s.Nodes)
	}
}

// leaking is a kernel in which a node lives by what it has in its slot 0 alone: a capability to what lies in slot 1, below that; it was made from an untyped one that lives by it.
func leaking(t *testing.T, order []int) *scene {
	t.Helper()
	x := set(t, 1, 9, 1024, 1)
	x.s.Arena.Free[0] = order
	x.ok(0, retype(to(0), to(2), api.TyUntyped, 256), retype(to(2), to(3), api.TyNode, 0), retype(to(0), to(4), api.TyFrame, 0), mint(to(4), to(5), 15, 0), move(to(4), to(3, 0)), erase(to(5)))
	x.ok(0, erase(to(3)), erase(to(2)))
	x.limbo(0)
	return x
}

// TestDeaths: P17.4: the least that nobody refers to is the first, each time: what dies lets others die.
func TestDeaths(t *testing.T) {
	for _, try := range []struct{ order, want []int }{ // an untyped one, a node made from it, a frame
		{[]int{3, 4, 5, 6, 7, 8}, []int{4, 3, 5}}, {[]int{5, 4, 3, 6, 7, 8}, []int{3, 4, 5}}, {[]int{3, 5, 4, 6, 7, 8}, []int{4, 5, 3}}, {[]int{5, 3, 4, 6, 7, 8}, []int{3, 4, 5}}, {[]int{4, 3, 5, 6, 7, 8}, []int{3, 4, 5}}, {[]int{4, 5, 3, 6, 7, 8}, []int{3, 5, 4}},
	} {
		x := leaking(t, try.order)
		x.ok(0, revoke(to(0)))
		x.limbo(0, try.want...)
		x.refs(3, 1, 1, 0, 0, 0)
		x.tree(twig(0, 0, 0), twig(0, 1, 0))
	}
}

// TestLimbo: P17.4: no more than eight in the core's own limbo, those that die of others' death counted; nothing has changed then.
func TestLimbo(t *testing.T) {
	for _, full := range []int{0, 5, 6, 7, 8} {
		x := leaking(t, []int{3, 4, 5, 6, 7, 8})
		x.wild = true // these places are none of its own
		x.s.Limbo[0] = slices.Repeat([]int{7}, full)
		fits := full+3 <= mostLimbo
		was := x.s
		was.Limbo = [][]int{slices.Repeat([]int{7}, full)}
		if fits {
			x.ok(0, revoke(to(0)))
			x.limbo(0, append(slices.Repeat([]int{7}, full), 4, 3, 5)...)
			continue
		}
		x.does(0, revoke(to(0)), code(0, api.ErrLimbo)...)
		x.is(was)
	}
	x := set(t, 2, 40, 1024, 1)
	for i := range 9 {
		x.ok(0, retype(to(0), to(2), api.TyFrame, 0))
		if i < 8 {
			x.ok(0, erase(to(2)))
		}
	}
	x.refused(0, erase(to(2)), api.ErrLimbo)
	x.ok(0, mint(to(2), to(3), 1, 0), erase(to(3))) // nothing dies of that
	x.ok(0, mint(to(2), to(3), 1, 0))
	x.refused(0, erase(to(2)), api.ErrKids)
	x.ok(0, erase(to(3)))
	x.begins(1, revoke(to(2)))
	x.refused(0, erase(to(2)), api.ErrBusy)
	x.turns(1, code(1, api.OK)...)
	x.ok(1, mint(to(1), to(3), 15, 0), erase(to(2))) // another core's has room
	x.limbo(1, 20)
	x.frees(0, 4)
	x.ok(0, retype(to(0), to(2), api.TyFrame, 0), erase(to(2)))
	x.limbo(0, 6, 8, 10, 12, 14, 16, 18, 22)
}

// TestGone: P17.3, P17.4: who waits at what dies is answered ErrGone, behind who calls, in order.
func TestGone(t *testing.T) {
	x := set(t, 5, 20, 1024, 1)
	x.ok(0, retype(to(0), to(2), api.TyEndpoint, 0), retype(to(0), to(3), api.TyNotice, 0))
	x.does(3, send(to(2), 1, 0))
	x.does(1, send(to(2), 2, to(0)))
	x.does(4, send(to(2), 3, 0))
	x.does(2, wait(to(3)))
	gone := append(append(code(3, api.ErrGone), code(1, api.ErrGone)...), code(4, api.ErrGone)...)
	y := *x
	x.does(0, erase(to(2)), append(code(0, api.OK), gone...)...)
	if p := x.s.Ports[5]; p.Kind != 0 || len(p.Queue) != 0 {
		t.Fatal(x.s.Ports)
	}
	x.does(0, erase(to(3)), append(code(0, api.OK), code(2, api.ErrGone)...)...)
	x.limbo(0, 5, 10)
	x.ok(3, look(to(7)))
	x.ok(2, retype(to(0), to(3), api.TyNotice, 0), signal(to(3)), erase(to(3))) // a notice's word goes with it
	if p := x.s.Ports[7]; p.Word != 0 {
		t.Fatal(x.s.Ports)
	}

	z := y
	y.does(0, revoke(to(0)), slices.Concat(code(0, api.OK), gone, code(2, api.ErrGone))...) // the last one first: that at 2
	y.limbo(0, 5, 10)
	z.begins(0, revoke(to(0)))
	z.turns(0)
	z.turns(0)
	z.turns(0, gone...)
	z.turns(0, code(2, api.ErrGone)...)
	z.turns(0, code(0, api.OK)...)
	z.is(y.s)
}

// TestRetype: P17.2: an object of each Type, where its memory lies, what it is.
func TestRetype(t *testing.T) {
	x := set(t, 2, 40, 1024, 2) // core 1 has the places 5, 7, ..; the second domain's memory begins at 1024
	for i, try := range []struct{ kind, size, start, wide, water int }{
		{api.TyNotice, 0, 1024, 4, 4}, {api.TyFrame, 0, 1040, 16, 32}, {api.TyEndpoint, 0, 1056, 4, 36}, {api.TyNode, 0, 1088, 64, 128}, {api.TyUntyped, 1, 1152, 1, 129}, {api.TyUntyped, 256, 1280, 256, 512},
	} {
		x.ok(1, retype(to(0), to(2+i), try.kind, try.size))
		p := 5 + 2*i
		x.thing(p, api.Thing{Type: try.kind, Refs: 1, Start: try.start, Size: try.wide, From: 3})
		x.has(1, 2+i, api.Cap{Type: try.kind, Rights: 15, Obj: p})
		x.thing(3, api.Thing{Type: api.TyUntyped, Refs: 2 + i, Start: 1024, Size: 1024, Water: try.water, From: -1})
		if slots := map[bool]int{true: 8}[try.kind == api.TyNode]; len(x.s.Nodes[p]) != slots || slices.ContainsFunc(x.s.Nodes[p], anything) {
			t.Fatal(x.s.Nodes[p])
		}
		x.refs(3, 4+i, 1)
	}
	x.tree(twig(0, 0, 0), twig(0, 1, 0), twig(1, 0, 0), twig(1, 7, 1), twig(1, 6, 1), twig(1, 5, 1), twig(1, 4, 1), twig(1, 3, 1), twig(1, 2, 1), twig(1, 1, 0))
	x.ok(1, retype(to(7), to(5, 0), api.TyFrame, 0), retype(to(7), to(5, 1), api.TyUntyped, 128)) // from one that was made
	x.thing(17, api.Thing{Type: api.TyFrame, Refs: 1, Start: 1280, Size: 16, From: 15})
	x.thing(19, api.Thing{Type: api.TyUntyped, Refs: 1, Start: 1408, Size: 128, From: 15})
	x.thing(15, api.Thing{Type: api.TyUntyped, Refs: 3, Start: 1280, Size: 256, Water: 256, From: 3})
	x.refused(1, retype(to(7), to(5, 2), api.TyUntyped, 1), api.ErrSpace)
	x.ok(1, mint(to(0), to(5, 2), api.Write, 0), retype(to(5, 2), to(5, 3), api.TyUntyped, 512)) // a copy: the same object's memory
	x.thing(21, api.Thing{Type: api.TyUntyped, Refs: 1, Start: 1536, Size: 512, From: 3})
	x.refused(1, retype(to(0), to(5, 4), api.TyUntyped, 1), api.ErrSpace)
	x.refused(1, retype(to(5, 2), to(5, 4), api.TyUntyped, 1), api.ErrSpace)
	x.ok(0, retype(to(0), to(2), api.TyUntyped, 1024))
	x.thing(6, api.Thing{Type: api.TyUntyped, Refs: 1, Size: 1024, From: 2})
}

// TestRetypeAnew: P17.2: once nothing live was made from it, all of it is there again, and places come back with their next Gen.
func TestRetypeAnew(t *testing.T) {
	x := set(t, 1, 5, 32, 1)
	x.ok(0, retype(to(0), to(2), api.TyFrame, 0), write(to(2), 9), retype(to(0), to(3), api.TyFrame, 0))
	x.refused(0, retype(to(0), to(4), api.TyUntyped, 1), api.ErrSpace)
	x.ok(0, erase(to(2)))
	x.refused(0, retype(to(0), to(4), api.TyUntyped, 1), api.ErrSpace) // the other one lives
	x.ok(0, erase(to(3)))
	x.thing(1, api.Thing{Type: api.TyUntyped, Refs: 1, Size: 32, Water: 32, From: -1})
	x.refused(0, retype(to(0), to(4), api.TyUntyped, 32), api.ErrFull)
	x.frees(0, 3)
	x.frees(0, 4)
	x.ok(0, retype(to(0), to(4), api.TyFrame, 0))
	x.thing(3, api.Thing{Type: api.TyFrame, Gen: 1, Refs: 1, Size: 16, From: 1})
	x.thing(1, api.Thing{Type: api.TyUntyped, Refs: 2, Size: 32, Water: 16, From: -1})
	x.has(0, 4, api.Cap{Type: api.TyFrame, Rights: 15, Obj: 3, Gen: 1})
	x.ok(0, read(to(4))) // never written: 0
	x.ok(0, erase(to(4)), retype(to(0), to(2), api.TyUntyped, 32))
	x.refused(0, retype(to(0), to(3), api.TyFrame, 0), api.ErrSpace)
}

// TestRetired: P17.7: a place is given back until its Gen is the last one.
func TestRetired(t *testing.T) {
	x := set(t, 1, 4, 64, 1)
	for gen := range 4096 {
		s, _ := Do(x.s, 0, retype(to(0), to(2), api.TyFrame, 0))
		if c := s.Nodes[0][2]; c != (api.Cap{Type: api.TyFrame, Rights: 15, Obj: 3, Gen: gen}) {
			t.Fatal(gen, c)
		}
		s, _ = Do(s, 0, erase(to(2)))
		x.s = s
		if gen < 4095 {
			x.s, _, _ = Free(s, 0)
		}
	}
	x.limbo(0, 3)
	x.frees(0, 3)
	x.limbo(0)
	x.thing(3, api.Thing{Gen: api.Retired, From: -1})
	if len(x.s.Arena.Free[0]) != 0 {
		t.Fatal(x.s.Arena)
	}
	x.refused(0, retype(to(0), to(2), api.TyFrame, 0), api.ErrFull)
}

// TestFrames: P17.2: CaRead, CaWrite; TestLook: CaLook.
func TestFrames(t *testing.T) {
	x := set(t, 2, 9, 1024, 1)
	x.ok(0, retype(to(0), to(2), api.TyFrame, 0), retype(to(0), to(3), api.TyFrame, 0), mint(to(2), to(4), api.Read, 0), mint(to(2), to(5), api.Write, 0))
	x.ok(1, read(to(2)), read(to(4)))
	for _, v := range []int64{7, -7, math.MaxInt64, math.MinInt64, 1} {
		x.ok(1, write(to(5), v))
		x.does(0, read(to(4)), one(0, api.Reply{Value: v})...)
		x.does(1, read(to(2)), one(1, api.Reply{Value: v})...)
		x.ok(0, read(to(3)))
	}
	x.refused(0, read(to(5)), api.ErrRights)
	x.refused(0, write(to(4), 1), api.ErrRights)
	x.begins(1, revoke(to(2)))
	x.turns(1)
	x.turns(1)
	x.ok(0, write(to(5), 4)) // marked, and yet it may be used
	x.does(0, read(to(4)), one(0, api.Reply{Value: 4})...)
	x.does(0, read(to(2)), one(0, api.Reply{Value: 4})...)
	x.does(0, look(to(4)), one(0, api.Reply{Value: 0x4000013})...)
	x.ok(0, write(to(5), 0), read(to(4)))
}

func TestLook(t *testing.T) {
	x := set(t, 1, 9, 1024, 1)
	x.ok(0, look(to(2)), look(to(7))) // nothing: the word 0
	x.does(0, look(to(0)), one(0, api.Reply{Value: 0x10000f1})...)
	x.does(0, look(to(1)), one(0, api.Reply{Value: 0x20000f4})...)
	x.ok(0, retype(to(0), to(2), api.TyFrame, 0), erase(to(2)))
	x.frees(0, 3)
	x.ok(0, retype(to(0), to(2), api.TyFrame, 0), erase(to(2)), retype(to(0), to(2), api.TyNotice, 0), mint(to(2), to(3), 5, 0x1234))
	x.does(0, look(to(3)), one(0, api.Reply{Value: 0x5123455})...)
	was := x.s
	x.does(0, look(to(2)), one(0, api.Reply{Value: 0x50000f5})...)
	x.is(was)
}

// TestBusy: P17.2: what is marked, or being revoked, is not derived from, moved, deleted or revoked, until that is over; what is not is.
func TestBusy(t *testing.T) {
	x := set(t, 2, 9, 1024, 1)
	x.ok(0, retype(to(0), to(2), api.TyUntyped, 64), mint(to(2), to(3), 15, 0), mint(to(3), to(4), 15, 0))
	x.begins(1, revoke(to(2)))
	busy := func(e api.Errno, l ...int) {
		t.Helper()
		for _, i := range l {
			for _, c := range []api.Call{mint(to(i), to(7), 15, 0), move(to(i), to(7)), erase(to(i)), revoke(to(i)), retype(to(i), to(7), api.TyFrame, 0)} {
				if e == api.ErrBusy {
					x.refused(0, c, e)
				} else if _, l := Do(x.s, 0, c); len(l) != 1 || l[0].Reply.Code == api.ErrBusy {
					t.Fatal(c, l)
				}
			}
		}
	}
	busy(api.ErrBusy, 2)
	busy(api.OK, 0, 1, 3, 4)
	x.turns(1)
	busy(api.ErrBusy, 2, 3)
	busy(api.OK, 0, 4)
	x.turns(1)
	busy(api.ErrBusy, 2, 3, 4)
	busy(api.OK, 0, 1)
	x.turns(1)
	busy(api.ErrBusy, 2, 3)
	x.turns(1)
	busy(api.ErrBusy, 2)
	x.turns(1, code(1, api.OK)...)
	busy(api.OK, 0, 1, 2)
}

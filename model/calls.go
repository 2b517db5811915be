package model

import (
	"garrison/api"
	"garrison/arena"
	"garrison/call"
	"garrison/cap"
	"garrison/carve"
	"garrison/port"
	"garrison/tree"
	"slices"
)

// unbadged are the bits of a signal by a capability without a badge: above those that a badge can have.
const unbadged = 1 << 20

// mostTurns is how many a revocation can have: each branch is marked, and taken away, and in the end there is none.
const mostTurns = 2 * api.MaxTree

// do has of each kind what it does, and the errors ahead of that, in the document's order.
func (w *work) do() {
	if call.Check(w.call) != api.OK {
		w.answer(api.Reply{Code: api.ErrCall})
		return
	}
	switch w.call.Kind {
	case api.CaMint:
		w.attempt(w.mint, w.findA, w.findB, w.some, w.idle, w.vacant, w.derivable, w.room)
	case api.CaMove:
		w.attempt(w.move, w.findA, w.findB, w.some, w.idle, w.vacant)
	case api.CaDelete:
		w.attempt(w.remove, w.findA, w.some, w.idle, w.childless, w.uncrowded)
	case api.CaRevoke:
		w.attempt(w.revoke, w.findA, w.some, w.idle)
	case api.CaRetype:
		w.attempt(w.retype, w.findA, w.findB, w.some, w.isUntyped, w.mayWrite, w.idle, w.vacant, w.sized, w.carved, w.taken, w.room)
	case api.CaRead:
		w.attempt(w.read, w.findA, w.some, w.isFrame, w.mayRead)
	case api.CaWrite:
		w.attempt(w.write, w.findA, w.some, w.isFrame, w.mayWrite)
	case api.CaSend:
		w.attempt(w.send, w.findA, w.findAnyB, w.some, w.isEndpoint, w.mayGive)
	case api.CaRecv:
		w.attempt(w.recv, w.findA, w.findAnyB, w.some, w.isEndpoint, w.mayRead)
	case api.CaSignal:
		w.attempt(w.signal, w.findA, w.some, w.isNotice, w.mayWrite)
	case api.CaWait:
		w.attempt(w.wait, w.findA, w.some, w.isNotice, w.mayRead)
	case api.CaLook:
		w.attempt(w.look, w.findA)
	}
}

// given is what is at A.
func (w *work) given() api.Cap { return w.at(w.a) }

// errIf spares each of the causes below a branch of its own.
func errIf(wrong bool, e api.Errno) api.Errno {
	if wrong {
		return e
	}
	return api.OK
}

// What a call may be refused for.

func (w *work) revokes() api.Errno {
	return errIf(call.Check(w.call) != api.OK || w.call.Kind != api.CaRevoke, api.ErrCall)
}

func (w *work) findA() (e api.Errno) {
	w.a, _, e = find(w.State, w.core, w.call.A)
	return e
}

func (w *work) findB() (e api.Errno) {
	w.b, _, e = find(w.State, w.core, w.call.B)
	return e
}

func (w *work) findAnyB() api.Errno {
	if w.call.B == 0 {
		return api.OK
	}
	return w.findB()
}

func (w *work) some() api.Errno { return errIf(!w.has(w.a), api.ErrNone) }

func (w *work) idle() api.Errno { return errIf(w.busy(w.a), api.ErrBusy) }

func (w *work) vacant() api.Errno { return errIf(w.has(w.b), api.ErrThere) }

func (w *work) room() api.Errno { return errIf(len(w.Tree) >= api.MaxTree, api.ErrMany) }

func (w *work) childless() api.Errno {
	return errIf(len(tree.Below(w.Tree, w.a)) > 0, api.ErrKids)
}

func (w *work) uncrowded() api.Errno { return errIf(w.crowds(w.a), api.ErrLimbo) }

func (w *work) derivable() api.Errno {
	_, e := w.derived()
	return e
}

func (w *work) sized() api.Errno {
	_, e := carve.Size(w.call.Type, w.call.Size)
	return errIf(e != api.OK, api.ErrArg)
}

func (w *work) carved() api.Errno {
	_, _, e := w.piece()
	return errIf(e != api.OK, api.ErrSpace)
}

func (w *work) taken() api.Errno {
	_, _, e := arena.Take(w.Arena, w.core, api.Thing{Type: w.call.Type})
	return errIf(e != api.OK, api.ErrFull)
}

func (w *work) typed(kind int) api.Errno { return errIf(w.given().Type != kind, api.ErrType) }

func (w *work) isUntyped() api.Errno { return w.typed(api.TyUntyped) }

func (w *work) isFrame() api.Errno { return w.typed(api.TyFrame) }

func (w *work) isEndpoint() api.Errno { return w.typed(api.TyEndpoint) }

func (w *work) isNotice() api.Errno { return w.typed(api.TyNotice) }

func (w *work) may(rights int) api.Errno { return errIf(!cap.May(w.given(), rights), api.ErrRights) }

func (w *work) mayRead() api.Errno { return w.may(api.Read) }

func (w *work) mayWrite() api.Errno { return w.may(api.Write) }

func (w *work) mayGive() api.Errno {
	if w.call.B == 0 {
		return w.may(api.Write)
	}
	return w.may(api.Write | api.Grant)
}

// What a call does, when it is not refused.

func (w *work) derived() (api.Cap, api.Errno) {
	return cap.Derive(w.given(), w.call.Rights, w.call.Badge)
}

func (w *work) mint() {
	c, _ := w.derived()
	w.derive(c, w.a, w.b)
	w.answer(api.Reply{})
}

func (w *work) move() {
	w.put(w.b, w.given())
	w.put(w.a, api.Cap{})
	w.Tree, _ = tree.Move(w.Tree, w.a, w.b)
	w.refer(w.b.Obj, 1)
	w.refer(w.a.Obj, -1)
	w.answer(api.Reply{})
}

func (w *work) remove() {
	w.takeAway(w.a)
	w.answer(api.Reply{})
}

// piece is the memory of what is made by a retype, and how much of the untyped one is given away then.
func (w *work) piece() (api.Extent, int, api.Errno) {
	from := w.given().Obj
	size, _ := carve.Size(w.call.Type, w.call.Size)
	t := w.thing(from)
	water := 0 // all of it is there again, once nothing that was made from it lives
	if slices.ContainsFunc(w.Arena.Things, func(one api.Thing) bool { return one.Type != api.TyNone && one.From == from }) {
		water = t.Water
	}
	return carve.Carve(api.Extent{Start: t.Start, Size: t.Size}, water, size)
}

func (w *work) retype() {
	from := w.given().Obj
	x, water, _ := w.piece()
	made := api.Thing{Type: w.call.Type, Start: x.Start, Size: x.Size, From: from}
	a, p, _ := arena.Take(w.Arena, w.core, made)
	w.Arena = a
	w.thing(from).Water = water
	if w.call.Type == api.TyNode {
		w.Nodes[p] = make([]api.Cap, api.Slots)
	}
	w.refer(from, 1)
	w.refer(p, -1) // Take has counted the capability, and derive counts it too
	w.derive(api.Cap{Type: w.call.Type, Rights: api.All, Obj: p, Gen: w.thing(p).Gen}, w.a, w.b)
	w.answer(api.Reply{})
}

func (w *work) read() { w.answer(api.Reply{Value: w.thing(w.given().Obj).Value}) }

func (w *work) write() {
	w.thing(w.given().Obj).Value = w.call.Value
	w.answer(api.Reply{})
}

func (w *work) look() {
	word, _ := cap.Word(w.given())
	w.answer(api.Reply{Value: int64(word)})
}

// waiter is the core as it comes to an endpoint: with the place of B, if there is one.
func (w *work) waiter() api.Waiter {
	one := api.Waiter{Core: w.core}
	if w.call.B != 0 {
		one.Has, one.Slot, one.Gen = true, w.b, w.thing(w.b.Obj).Gen
	}
	return one
}

func (w *work) send() {
	one := w.waiter()
	one.Value, one.Badge, one.Grant = w.call.Value, w.given().Badge, one.Has
	p := w.port(w.given().Obj)
	q, other, met, _ := port.Send(*p, one)
	*p = q
	if met {
		sent, received := w.meet(one, other)
		w.answer(sent)
		w.tell(other.Core, received)
	}
}

func (w *work) recv() {
	one := w.waiter()
	p := w.port(w.given().Obj)
	q, other, met, _ := port.Recv(*p, one)
	*p = q
	if met {
		sent, received := w.meet(other, one)
		w.answer(received)
		w.tell(other.Core, sent)
	}
}

// meet hands over what f gives to t, if that can be: what each of them is answered.
func (w *work) meet(f, t api.Waiter) (sent, received api.Reply) {
	gives := w.lies(f) && w.lies(t) && w.has(f.Slot) && !w.busy(f.Slot) && !w.has(t.Slot) && w.room() == api.OK
	if gives {
		w.derive(w.at(f.Slot), f.Slot, t.Slot)
	}
	return api.Reply{Cap: gives}, api.Reply{Value: f.Value, Badge: f.Badge, Cap: gives}
}

// lies says whether one has a slot, in a node that is still the one that it was.
func (w *work) lies(one api.Waiter) bool {
	node := w.thing(one.Slot.Obj)
	return one.Has && node.Type == api.TyNode && node.Gen == one.Gen
}

func (w *work) signal() {
	bits := int64(w.given().Badge)
	if bits == 0 {
		bits = unbadged
	}
	p := w.port(w.given().Obj)
	q, other, met := port.Signal(*p, bits)
	*p = q
	w.answer(api.Reply{})
	if met {
		w.tell(other.Core, api.Reply{Value: other.Value})
	}
}

func (w *work) wait() {
	p := w.port(w.given().Obj)
	q, bits, _ := port.Wait(*p, w.core)
	*p = q
	if bits != 0 {
		w.answer(api.Reply{Value: bits})
	}
}

func (w *work) begin() { w.Sweeps[w.core] = api.Sweep{On: true, Key: w.a} }

func (w *work) revoke() {
	w.begin()
	for i := 0; i < mostTurns && len(w.own) == 0; i++ {
		w.turn()
	}
}

func (w *work) turn() {
	x := w.Sweeps[w.core]
	if x.Lost {
		w.end(api.ErrGone)
		return
	}
	below := tree.Below(w.Tree, x.Key)
	if len(below) == 0 {
		w.end(api.OK)
		return
	}
	if next, ok := w.unmarked(x.Key, len(below)); ok {
		w.Tree, _ = tree.Mark(w.Tree, next, true)
		return
	}
	last := below[len(below)-1]
	if w.crowds(last) {
		w.end(api.ErrLimbo)
		w.unmark(below)
		return
	}
	w.takeAway(last)
}

// end has who revokes be answered: its sweep is over.
func (w *work) end(e api.Errno) {
	w.Sweeps[w.core] = api.Sweep{}
	w.answer(api.Reply{Code: e})
}

// unmarked is the first of the n branches behind k that is not marked.
func (w *work) unmarked(k api.Key, n int) (api.Key, bool) {
	at, _ := tree.Find(w.Tree, k)
	for _, b := range w.Tree[at+1:][:n] {
		if !b.Mark {
			return b.Key, true
		}
	}
	return api.Key{}, false
}

// unmark leaves the marks of what is being revoked by others too.
func (w *work) unmark(l []api.Key) {
	for _, k := range l {
		below := func(x api.Sweep) bool { return goesOn(x) && tree.Descends(w.Tree, k, x.Key) }
		if !slices.ContainsFunc(w.Sweeps, below) {
			w.Tree, _ = tree.Mark(w.Tree, k, false)
		}
	}
}

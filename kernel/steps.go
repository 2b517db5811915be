package kernel

import (
	"garrison/api"
	"garrison/epoch"
	"garrison/grab"
	"garrison/model"
	"garrison/order"
	"slices"
)

// What a core does: P19.3 to P19.5.

// next is what the core does in its next step; nil: it has nothing to do.
func (k *Kernel) next(core int) func(int) {
	switch c := &k.cores[core]; c.phase {
	case api.CoIdle:
		return k.chore(core)
	case api.CoPlan:
		return k.plan
	case api.CoLock:
		if c.grab.Phase == api.GrHave {
			return k.act
		}
		return k.grabs
	case api.CoUnlock:
		return k.letGo
	case api.CoLeave:
		return k.leave
	}
	return nil
}

// chore is what an idle core does: what waits to be used again comes ahead of calls.
func (k *Kernel) chore(core int) func(int) {
	c := &k.cores[core]
	if c.reaped > 0 {
		return k.giveBack
	}
	if len(k.epochs.Limbo[core]) > 0 {
		if _, gone := epoch.Reap(k.epochs, core); len(gone) > 0 {
			return k.reap
		}
		if _, goes := epoch.Advance(k.epochs); goes {
			return k.advance
		}
	}
	// What still waits, with the epoch held back by others, does not keep it from its calls.
	if len(c.calls) > 0 {
		return k.begin
	}
	return nil
}

func (k *Kernel) giveBack(core int) {
	k.state, _, _ = model.Free(k.state, core)
	k.cores[core].reaped--
	k.note(api.Event{Kind: api.EvFree, Core: core})
}

// note puts an event, and begin a call, behind the others as hist does, whose calls would look over all that was ever noted each time.
func (k *Kernel) note(e api.Event) {
	e.Stamp = k.now
	k.hist.Events = append(k.hist.Events, e)
}

func (k *Kernel) reap(core int) {
	e, gone := epoch.Reap(k.epochs, core)
	k.epochs = e
	k.cores[core].reaped = len(gone)
}

func (k *Kernel) advance(int) { k.epochs, _ = epoch.Advance(k.epochs) }

func (k *Kernel) begin(core int) {
	c := &k.cores[core]
	c.call, c.calls = c.calls[0], c.calls[1:]
	c.span = len(k.hist.Spans)
	k.hist.Spans = append(k.hist.Spans, api.Span{Core: core, Call: c.call, Start: k.now})
	k.epochs, _ = epoch.Pin(k.epochs, core)
	c.phase = api.CoPlan
}

func (k *Kernel) plan(core int) {
	c := &k.cores[core]
	c.grab, _ = grab.Start(core+1, true, k.wanted(core)...)
	c.phase = api.CoLock
}

// wanted is the cells of all locks that the core needs as things are now.
func (k *Kernel) wanted(core int) []int {
	var l []int
	for _, key := range k.touched(core) {
		l = append(l, order.Cell(key))
	}
	return l
}

// touched is what the core has to do with: P19.4.
func (k *Kernel) touched(core int) []api.Key {
	if k.state.Sweeps[core].On {
		return turns(k.state, k.state.Sweeps[core])
	}
	return model.Touch(k.state, core, k.cores[core].call)
}

// grabs does the grab's next step, if there is one.
func (k *Kernel) grabs(core int) {
	c := &k.cores[core]
	if o, ok := grab.Next(c.grab); ok {
		_, ok, _ = k.locks.Do(o)
		c.grab = grab.Take(c.grab, ok)
	}
}

// act asks again what the call has to do with: that was asked ahead of the locks, and others may have acted since.
func (k *Kernel) act(core int) {
	c := &k.cores[core]
	held := grab.Held(c.grab)
	c.short = slices.ContainsFunc(k.wanted(core), func(cell int) bool { return !slices.Contains(held, cell) })
	if !c.short {
		k.do(core)
	}
	c.grab = grab.Free(c.grab)
	c.phase = api.CoUnlock
}

// do is the event, at once, with all that comes of it.
func (k *Kernel) do(core int) {
	c := &k.cores[core]
	e := api.Event{Kind: k.kind(core), Core: core, Call: c.call}
	waste := len(k.state.Limbo[core])
	switch e.Kind {
	case api.EvBegin:
		k.state, e.Replies = model.Begin(k.state, core, c.call)
	case api.EvTurn:
		k.state, e.Replies = model.Turn(k.state, core)
	default:
		k.state, e.Replies = model.Do(k.state, core, c.call)
	}
	for _, obj := range k.state.Limbo[core][waste:] {
		k.epochs, _ = epoch.Retire(k.epochs, core, obj)
	}
	k.note(e)
	for _, d := range e.Replies {
		k.tell(d)
	}
}

func (k *Kernel) kind(core int) int {
	if k.cores[core].call.Kind != api.CaRevoke {
		return api.EvDo
	}
	if k.state.Sweeps[core].On {
		return api.EvTurn
	}
	return api.EvBegin
}

// tell lets a core have its reply; one that waits for it has something to do again.
func (k *Kernel) tell(d api.Done) {
	c := &k.cores[d.Core]
	c.answered, c.reply = true, d.Reply
	if c.phase == api.CoWait {
		c.phase = api.CoLeave
	}
}

func (k *Kernel) letGo(core int) {
	k.grabs(core)
	if c := &k.cores[core]; c.grab.Phase == api.GrDone {
		c.phase = k.onward(core)
	}
}

// onward is the phase of a core that has let all its locks go.
func (k *Kernel) onward(core int) int {
	c := &k.cores[core]
	switch {
	case c.answered:
		return api.CoLeave
	case c.short || k.state.Sweeps[core].On:
		return api.CoPlan
	}
	return api.CoWait
}

func (k *Kernel) leave(core int) {
	c := &k.cores[core]
	k.epochs, _ = epoch.Unpin(k.epochs, core)
	s := &k.hist.Spans[c.span]
	s.End, s.Reply = k.now, c.reply
	c.answered, c.reply, c.call = false, api.Reply{}, api.Call{}
	c.phase = api.CoIdle
}

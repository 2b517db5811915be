package grant

import (
	"slices"
	"testing"

	"garrison/api"
	"garrison/kernel"
	"garrison/script"
)

// watch is a kernel whose every event is asked something of.
type watch struct {
	t      *testing.T
	d      *dice
	k      *kernel.Kernel
	cores  int
	first  api.State
	s      api.State
	events []api.Event
	seen   map[string]int
	each   func(stride)
}

// watched is a kernel of a size that the dice tell.
func watched(t *testing.T, seed int, seen map[string]int) *watch {
	t.Helper()
	d := dice(seed*104729 + 2)
	domains := 1 + d.upTo(4)
	return watchedOf(t, &d, 2*domains+4+d.upTo(24), domains, seen)
}

// watchedOf is one of so many places and domains.
func watchedOf(t *testing.T, d *dice, objs, domains int, seen map[string]int) *watch {
	t.Helper()
	cores := 2 + d.upTo(6)
	k, e := kernel.New(cores, objs, d.one(1024, 4096, 1<<14), domains)
	if e != api.OK {
		t.Fatal(e)
	}
	return &watch{t: t, d: d, k: k, cores: cores, first: k.State(), s: k.State(), seen: seen, each: func(stride) {}}
}

// load has a core call n times, one of l each.
func (x *watch) load(core, n int, l ...deed) {
	for range n {
		x.k.Load(core, l[x.d.upTo(len(l))].call)
	}
}

// loaded picks cores, and fills up with rounds, until all that was loaded is done, as far as can be.
func (x *watch) loaded(steps int) {
	x.t.Helper()
	for _, core := range x.d.picks(x.cores, steps) {
		x.step(core)
	}
	x.rounds()
}

// step is one of that core; what comes of it, if it is an event, is handed over.
func (x *watch) step(core int) {
	x.t.Helper()
	was := x.k.Phase(core)
	if !x.k.Step(core) {
		x.seen["idle steps"]++
		return
	}
	x.seen["steps"]++
	is := x.k.Phase(core)
	if acts := was == api.CoLock && is == api.CoUnlock || was == api.CoIdle && is == api.CoIdle; !acts {
		return
	}
	n := x.k.State()
	if h := x.k.Hist(); len(h.Events) > len(x.events) {
		x.events = h.Events
		e := h.Events[len(h.Events)-1]
		one := stride{x.s, n, e.Kind, e.Core, e.Call, e.Replies}
		x.count(one)
		x.each(one)
	}
	x.s = n
}

// count tells what runs have to come by.
func (x *watch) count(one stride) {
	beside := slices.ContainsFunc(one.s.Sweeps, func(s api.Sweep) bool { return s.On }) && one.kind == api.EvDo
	if beside && len(toldGained(one.s, one.n)) > 0 {
		x.seen["derived beside a revocation"]++
	}
	if one.kind != api.EvFree && len(one.n.Limbo[one.core]) > len(one.s.Limbo[one.core]) {
		for other := range x.cores {
			if other != one.core && x.k.Phase(other) != api.CoIdle {
				x.seen["died beside a call"]++
			}
		}
	}
	for _, d := range one.replies {
		if d.Reply.Code == api.ErrBusy {
			x.seen["busy"]++
		}
		if d.Reply.Code == api.ErrGone && d.Core != one.core {
			x.seen["gone"]++
		}
	}
	if one.met() {
		x.seen["met"]++
	}
}

// run has cores that have nothing to do call something, and picks them in one of many orders.
func (x *watch) run(steps int) {
	x.t.Helper()
	for _, core := range x.d.picks(x.cores, steps) {
		x.calls(core)
		x.step(core)
	}
}

// calls has the core something to do.
func (x *watch) calls(core int) {
	if x.k.Phase(core) == api.CoIdle && x.k.Left(core) == 0 {
		for range 1 + x.d.upTo(2) { // the second one is told as things are, not as they will be
			x.k.Load(core, x.d.call(x.s, core))
		}
	}
}

// rounds fills up with rounds, until nothing happens any more.
func (x *watch) rounds() {
	x.t.Helper()
	for range 400 {
		now := x.k.Now()
		for _, core := range script.Rounds(x.cores, 20) {
			x.step(core)
		}
		if x.k.Now() == now {
			return
		}
	}
	x.t.Fatal("it does not end")
}

package kernel

import (
	"slices"

	"garrison/api"
	"garrison/hist"
	"garrison/model"
)

// The document's limits, written out.
const (
	mostCalls = 1000
	mostLimbo = 8
	lockCount = 576
)

// told is a second telling of the chapter, made of other parts: locks are a map from cells to who holds them, a core is a row of things that it has yet to do, and epochs are told by how old what waits is.
type told struct {
	now   int
	s     api.State
	h     api.History
	epoch int64
	pins  []int64
	waste [][]api.Waste
	locks map[int]int
	cores []*mate
}

// mate is one of the cores.
type mate struct {
	left  []api.Call
	phase int
	call  api.Call
	want  []int // cells to be taken, in their order
	had   []int // cells that are held, the last one at the end
	again bool
	reply *api.Reply
	dead  []int // reaped, not given back
}

func tell(cores, objs, space, domains int) *told {
	s, _ := model.New(cores, objs, space, domains)
	w := &told{s: s, epoch: 1, pins: make([]int64, cores), waste: make([][]api.Waste, cores), locks: map[int]int{}}
	for range cores {
		w.cores = append(w.cores, &mate{})
	}
	return w
}

// behind says whether somebody is in an epoch that is over.
func (w *told) behind() bool {
	return slices.ContainsFunc(w.pins, func(p int64) bool { return p != 0 && p != w.epoch+1 })
}

// ripe is how many of what waits at a core nobody can see any more.
func (w *told) ripe(core int) int {
	n := 0
	for n < len(w.waste[core]) && w.waste[core][n].Epoch+2 <= w.epoch {
		n++
	}
	return n
}

func (w *told) step(core int) bool {
	if core < 0 || core >= len(w.cores) {
		return false
	}
	m := w.cores[core]
	if m.phase == 4 && m.reply == nil || m.phase == 0 && !w.restless(core) {
		return false
	}
	w.now++
	switch {
	case m.phase == 0:
		w.idle(core)
	case m.phase == 1:
		m.want, m.had, m.again = w.cellsOf(core), nil, false
		m.phase = 2
	case m.phase == 2 && len(m.want) > 0:
		if w.locks[m.want[0]] == 0 {
			w.locks[m.want[0]] = core + 1
			m.had, m.want = append(m.had, m.want[0]), m.want[1:]
		}
	case m.phase == 2:
		m.phase = 3
		if m.again = slices.ContainsFunc(w.cellsOf(core), func(c int) bool { return w.locks[c] != core+1 }); !m.again {
			w.act(core)
		}
	case m.phase == 3:
		w.unlock(core)
	case m.phase == 5:
		w.h = must(hist.Answer(w.h, core, *m.reply, w.now))
		w.pins[core], m.reply, m.phase = 0, nil, 0
	}
	return true
}

func (w *told) restless(core int) bool {
	m := w.cores[core]
	return len(m.dead) > 0 || len(m.left) > 0 || w.ripe(core) > 0 || len(w.waste[core]) > 0 && !w.behind()
}

func (w *told) idle(core int) {
	m := w.cores[core]
	switch n := w.ripe(core); {
	case len(m.dead) > 0:
		s, obj, ok := model.Free(w.s, core)
		if !ok || obj != m.dead[0] {
			panic("what is given back is not what was reaped")
		}
		w.s, m.dead = s, m.dead[1:]
		w.h = must(hist.Note(w.h, api.Event{Kind: 3, Core: core, Stamp: w.now}))
	case n > 0:
		for _, x := range w.waste[core][:n] {
			m.dead = append(m.dead, x.Obj)
		}
		w.waste[core] = slices.Clone(w.waste[core][n:])
	case len(w.waste[core]) > 0 && !w.behind():
		w.epoch++
	default:
		m.call, m.left = m.left[0], m.left[1:]
		w.h = must(hist.Invoke(w.h, core, m.call, w.now))
		w.pins[core], m.phase = w.epoch+1, 1
	}
}

// must is for calls that the document says are OK.
func must(h api.History, e api.Errno) api.History {
	if e != api.OK {
		panic(e)
	}
	return h
}

// cellsOf is the cells of what a core has to do with now.
func (w *told) cellsOf(core int) []int {
	var l []int
	lay := func(obj, slot int) { l = append(l, 9*obj+slot+1) }
	x := w.s.Sweeps[core]
	if !x.On {
		for _, k := range model.Touch(w.s, core, w.cores[core].call) {
			lay(k.Obj, k.Slot)
		}
		return l
	}
	lay(x.Key.Obj, x.Key.Slot)
	lay(x.Key.Obj, -1)
	if at := w.goal(x); at > 0 {
		k := w.s.Tree[at].Key
		lay(w.s.Nodes[k.Obj][k.Slot].Obj, -1)
		for i := at - 1; i <= at+1 && i < len(w.s.Tree); i++ {
			lay(w.s.Tree[i].Key.Obj, w.s.Tree[i].Key.Slot)
			lay(w.s.Tree[i].Key.Obj, -1)
		}
	}
	slices.Sort(l)
	return slices.Compact(l)
}

// goal is where in the tree the slot is that would be marked, or taken away; 0: there is none (it is below another one, so its place is no less than 1).
func (w *told) goal(x api.Sweep) int {
	if x.Lost {
		return 0
	}
	top := slices.IndexFunc(w.s.Tree, func(b api.Branch) bool { return b.Key == x.Key })
	last := 0
	for i := top + 1; i < len(w.s.Tree) && w.s.Tree[i].Depth > w.s.Tree[top].Depth; i++ {
		if !w.s.Tree[i].Mark {
			return i
		}
		last = i
	}
	return last
}

func (w *told) act(core int) {
	m := w.cores[core]
	e := api.Event{Core: core, Call: m.call, Stamp: w.now}
	before := len(w.s.Limbo[core])
	switch {
	case m.call.Kind != api.CaRevoke:
		w.s, e.Replies = model.Do(w.s, core, m.call)
	case w.s.Sweeps[core].On:
		e.Kind = 2
		w.s, e.Replies = model.Turn(w.s, core)
	default:
		e.Kind = 1
		w.s, e.Replies = model.Begin(w.s, core, m.call)
	}
	for _, p := range w.s.Limbo[core][before:] {
		w.waste[core] = append(w.waste[core], api.Waste{Obj: p, Epoch: w.epoch})
	}
	w.h = must(hist.Note(w.h, e))
	for _, d := range e.Replies {
		one := w.cores[d.Core]
		one.reply = &d.Reply
		if one.phase == 4 {
			one.phase = 5
		}
	}
}

func (w *told) unlock(core int) {
	m := w.cores[core]
	if n := len(m.had); n > 0 {
		delete(w.locks, m.had[n-1])
		m.had = m.had[:n-1]
	}
	if len(m.had) > 0 {
		return
	}
	m.phase = 4
	if m.reply != nil {
		m.phase = 5
	} else if m.again || w.s.Sweeps[core].On {
		m.phase = 1
	}
}

// values are those of all locks.
func (w *told) values() []int64 {
	l := make([]int64, lockCount)
	for cell, who := range w.locks {
		l[cell] = int64(who)
	}
	return l
}

func (w *told) epochs() api.Epochs { return api.Epochs{Now: w.epoch, Pins: w.pins, Limbo: w.waste} }

// differs says in what the kernel is not as it is told; the empty text: in nothing.
func (w *told) differs(k *Kernel) string {
	switch {
	case k.Now() != w.now:
		return "Now"
	case !slices.Equal(k.Locks(), w.values()):
		return "Locks"
	case !likeEpochs(k.Epochs(), w.epochs()):
		return "Epochs"
	case !like(k.State(), w.s):
		return "State"
	case !slices.Equal(k.hist.Spans, w.h.Spans):
		return "Hist's spans"
	case len(k.hist.Events) != len(w.h.Events) || len(w.h.Events) > 0 && !likeEvent(k.hist.Events[len(w.h.Events)-1], w.h.Events[len(w.h.Events)-1]):
		return "Hist's events"
	}
	for core, m := range w.cores {
		if k.Phase(core) != m.phase || k.Left(core) != len(m.left) || !slices.Equal(k.Held(core), m.had) {
			return "a core"
		}
	}
	return ""
}

func likeEvent(a, b api.Event) bool {
	return a.Kind == b.Kind && a.Core == b.Core && a.Call == b.Call && a.Stamp == b.Stamp && slices.Equal(a.Replies, b.Replies)
}

func likeHist(a, b api.History) bool {
	return slices.Equal(a.Spans, b.Spans) && slices.EqualFunc(a.Events, b.Events, likeEvent)
}

func likeEpochs(a, b api.Epochs) bool {
	return a.Now == b.Now && slices.Equal(a.Pins, b.Pins) && slices.EqualFunc(a.Limbo, b.Limbo, slices.Equal)
}

// like says whether two states are the same; nil is an empty list.
func like(a, b api.State) bool {
	ports := func(p, q api.Port) bool {
		return p.Kind == q.Kind && p.Word == q.Word && slices.Equal(p.Queue, q.Queue)
	}
	return slices.Equal(a.Arena.Things, b.Arena.Things) && slices.EqualFunc(a.Arena.Free, b.Arena.Free, slices.Equal) &&
		slices.EqualFunc(a.Nodes, b.Nodes, slices.Equal) && slices.Equal(a.Tree, b.Tree) && slices.EqualFunc(a.Ports, b.Ports, ports) &&
		slices.EqualFunc(a.Limbo, b.Limbo, slices.Equal) && slices.Equal(a.Roots, b.Roots) && slices.Equal(a.Sweeps, b.Sweeps)
}

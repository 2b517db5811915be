package model

import (
	"garrison/addr"
	"garrison/api"
	"garrison/arena"
	"garrison/tree"
	"slices"
)

// work is a call while it is done: a state, whose lists are its own, who calls and what, where the addresses of that lead to, and who is answered.
type work struct {
	api.State
	core   int
	call   api.Call
	a, b   api.Key
	own    []api.Done
	others []api.Done
}

func start(s api.State, core int, c api.Call) *work {
	return &work{State: apart(s), core: core, call: c}
}

// apart is s in memory of its own: what is done to it is not to be seen in what was handed in.
func apart(s api.State) api.State {
	own := api.State{
		Arena:  api.Arena{Things: slices.Clone(s.Arena.Things), Free: lists(s.Arena.Free)},
		Nodes:  lists(s.Nodes),
		Tree:   slices.Clone(s.Tree),
		Ports:  slices.Clone(s.Ports),
		Limbo:  lists(s.Limbo),
		Roots:  slices.Clone(s.Roots),
		Sweeps: slices.Clone(s.Sweeps),
	}
	for i, p := range own.Ports {
		own.Ports[i].Queue = slices.Clone(p.Queue)
	}
	return own
}

func lists[T any](l [][]T) [][]T {
	own := slices.Clone(l)
	for i, one := range own {
		own[i] = slices.Clone(one)
	}
	return own
}

// answer is for who calls, tell for others: who calls is told first, even if its reply comes last.

func (w *work) answer(r api.Reply) { w.own = append(w.own, api.Done{Core: w.core, Reply: r}) }

func (w *work) tell(core int, r api.Reply) {
	w.others = append(w.others, api.Done{Core: core, Reply: r})
}

func (w *work) replies() []api.Done { return append(w.own, w.others...) }

// attempt asks for the errors in their order, and acts if there is none. What asks changes nothing of the state.
func (w *work) attempt(act func(), ask ...func() api.Errno) {
	for _, refused := range ask {
		if e := refused(); e != api.OK {
			w.answer(api.Reply{Code: e})
			return
		}
	}
	act()
}

// at is what is in a slot.
func (w *work) at(k api.Key) api.Cap {
	c, _ := addr.Get(w.Nodes, k)
	return c
}

func (w *work) has(k api.Key) bool { return w.at(k) != api.Cap{} }

func (w *work) put(k api.Key, c api.Cap) {
	if _, ok := addr.Get(w.Nodes, k); ok {
		w.Nodes[k.Obj][k.Slot] = c
	}
}

// thing and port are those of a place, to be changed where they lie; of a place that there is not, which no state that came of calls here has, they are such that nobody sees.

func (w *work) thing(obj int) *api.Thing {
	if obj < 0 || obj >= len(w.Arena.Things) {
		return &api.Thing{From: nowhere}
	}
	return &w.Arena.Things[obj]
}

func (w *work) port(obj int) *api.Port {
	if obj < 0 || obj >= len(w.Ports) {
		return &api.Port{}
	}
	return &w.Ports[obj]
}

func (w *work) refer(obj, by int) { w.Arena, _ = arena.Refer(w.Arena, obj, by) }

func goesOn(x api.Sweep) bool { return x.On && !x.Lost }

func (w *work) busy(k api.Key) bool {
	at, ok := tree.Find(w.Tree, k)
	return ok && w.Tree[at].Mark || slices.ContainsFunc(w.Sweeps, func(x api.Sweep) bool { return goesOn(x) && x.Key == k })
}

// derive puts c, which comes from what is at from, at to.
func (w *work) derive(c api.Cap, from, to api.Key) {
	w.put(to, c)
	w.Tree, _ = tree.Insert(w.Tree, from, to)
	w.refer(c.Obj, 1)
	w.refer(to.Obj, 1)
}

// dying are the places that die, in their order, if what is at k is taken away. They are told ahead, so that with too many of them nothing has changed yet.
func (w *work) dying(k api.Key) []int {
	things := slices.Clone(w.Arena.Things)
	less := func(obj int) {
		if obj >= 0 && obj < len(things) {
			things[obj].Refs--
		}
	}
	less(w.at(k).Obj)
	less(k.Obj)
	var dead []int
	for {
		p := slices.IndexFunc(things, func(t api.Thing) bool { return t.Type != api.TyNone && t.Refs == 0 })
		if p < 0 {
			return dead
		}
		dead = append(dead, p)
		less(things[p].From)
		things[p].Type = api.TyNone
	}
}

// crowds says whether the core's Limbo would have too many, if what is at k was taken away.
func (w *work) crowds(k api.Key) bool {
	return len(w.Limbo[w.core])+len(w.dying(k)) > api.MaxLimbo
}

func (w *work) takeAway(k api.Key) {
	dead, obj := w.dying(k), w.at(k).Obj
	w.put(k, api.Cap{})
	w.Tree, _ = tree.Remove(w.Tree, k)
	for i, x := range w.Sweeps {
		if x.On && x.Key == k {
			w.Sweeps[i].Lost = true
		}
	}
	w.refer(obj, -1)
	w.refer(k.Obj, -1)
	for _, p := range dead {
		w.die(p)
	}
}

func (w *work) die(p int) {
	for _, one := range w.port(p).Queue {
		w.tell(one.Core, api.Reply{Code: api.ErrGone})
	}
	*w.port(p) = api.Port{}
	w.Nodes[p] = nil
	from := w.thing(p).From
	w.Arena, _ = arena.Drop(w.Arena, p)
	w.Limbo[w.core] = append(w.Limbo[w.core], p)
	w.refer(from, -1)
}

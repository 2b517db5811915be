package model

import (
	"cmp"
	"maps"
	"slices"

	"garrison/addr"
	"garrison/api"
	"garrison/call"
)

// The document's limits, written out.
const (
	mostCores   = 64
	mostObjs    = 64
	mostDomains = 4
	mostMemory  = 1 << 18
	mostTree    = 512
	mostLimbo   = 8
	bare        = 1 << 20
)

// world is a second telling of the chapter, made of other parts: slots lie in maps, each knows what it was derived from and when. References are counted, and the tree is laid, whenever they are asked for.
type world struct {
	things []api.Thing // whose Refs are of no account
	caps   map[api.Key]api.Cap
	up     map[api.Key]api.Key // roots have none
	born   map[api.Key]int
	mark   map[api.Key]bool
	births int
	ports  []api.Port
	free   [][]int
	limbo  [][]int
	roots  []int
	sweeps []api.Sweep
}

func key(obj, slot int) api.Key { return api.Key{Obj: obj, Slot: slot} }

// first is the error that the document names first: those that apply are told in its order.
func first(l ...any) api.Errno {
	for i := 0; i < len(l); i += 2 {
		if l[i].(bool) {
			return l[i+1].(api.Errno)
		}
	}
	return api.OK
}

// begun is what the document says of New, of numbers that may be.
func begun(cores, objs, space, domains int) *world {
	w := &world{things: make([]api.Thing, objs), ports: make([]api.Port, objs), free: make([][]int, cores), limbo: make([][]int, cores),
		roots: make([]int, cores), sweeps: make([]api.Sweep, cores),
		caps: map[api.Key]api.Cap{}, up: map[api.Key]api.Key{}, born: map[api.Key]int{}, mark: map[api.Key]bool{}}
	for p := range w.things {
		w.things[p].From = -1
		if p > 2*domains {
			w.free[p%cores] = append(w.free[p%cores], p)
		}
	}
	for core := range cores {
		w.roots[core] = core % domains
	}
	w.things[2*domains].Type = api.TyEndpoint
	for d := range domains {
		w.things[d].Type = api.TyNode
		w.things[domains+d] = api.Thing{Type: api.TyUntyped, Start: d * space, Size: space, From: -1}
		w.bear(key(d, 0), api.Cap{Type: api.TyUntyped, Rights: 15, Obj: domains + d})
		w.bear(key(d, 1), api.Cap{Type: api.TyEndpoint, Rights: 15, Obj: 2 * domains})
	}
	return w
}

func (w *world) bear(k api.Key, c api.Cap) {
	w.births++
	w.caps[k], w.born[k] = c, w.births
}

func (w *world) clone() *world {
	n := *w
	n.things, n.ports, n.roots, n.sweeps = slices.Clone(w.things), slices.Clone(w.ports), slices.Clone(w.roots), slices.Clone(w.sweeps)
	n.caps, n.up, n.born, n.mark = maps.Clone(w.caps), maps.Clone(w.up), maps.Clone(w.born), maps.Clone(w.mark)
	n.free, n.limbo = make([][]int, len(w.free)), make([][]int, len(w.limbo))
	for core := range w.free {
		n.free[core], n.limbo[core] = slices.Clone(w.free[core]), slices.Clone(w.limbo[core])
	}
	for p := range w.ports {
		n.ports[p].Queue = slices.Clone(w.ports[p].Queue)
	}
	return &n
}

func (w *world) isLive(p int) bool { return w.things[p].Type != api.TyNone }

// refs are counted as P17.9 says.
func (w *world) refs() []int {
	n := make([]int, len(w.things))
	for k, c := range w.caps {
		n[c.Obj]++
		n[k.Obj]++
	}
	for p, t := range w.things {
		if w.isLive(p) && t.From >= 0 {
			n[t.From]++
		}
		if t.Type == api.TyNode && t.From < 0 {
			n[p]++
		}
	}
	return n
}

// tree is laid from who was derived from whom: roots as they were born, what was derived from one right behind it, the youngest first.
func (w *world) tree() []api.Branch {
	kids := map[api.Key][]api.Key{}
	var roots []api.Key
	for k := range w.caps {
		if from, ok := w.up[k]; ok {
			kids[from] = append(kids[from], k)
		} else {
			roots = append(roots, k)
		}
	}
	older := func(a, b api.Key) int { return cmp.Compare(w.born[a], w.born[b]) }
	younger := func(a, b api.Key) int { return older(b, a) }
	var l []api.Branch
	var lay func(k api.Key, depth int)
	lay = func(k api.Key, depth int) {
		l = append(l, api.Branch{Key: k, Depth: depth, Mark: w.mark[k]})
		slices.SortFunc(kids[k], younger)
		for _, kid := range kids[k] {
			lay(kid, depth+1)
		}
	}
	slices.SortFunc(roots, older)
	for _, k := range roots {
		lay(k, 0)
	}
	return l
}

// isBelow goes up from a.
func (w *world) isBelow(a, b api.Key) bool {
	for from, ok := w.up[a]; ok; from, ok = w.up[from] {
		if from == b {
			return true
		}
	}
	return false
}

func (w *world) below(k api.Key) []api.Key {
	var l []api.Key
	for _, b := range w.tree() {
		if w.isBelow(b.Key, k) {
			l = append(l, b.Key)
		}
	}
	return l
}

func (w *world) state() api.State {
	s := api.State{Arena: api.Arena{Things: slices.Clone(w.things), Free: w.free}, Nodes: make([][]api.Cap, len(w.things)), Tree: w.tree(),
		Ports: w.ports, Limbo: w.limbo, Roots: w.roots, Sweeps: w.sweeps}
	for p, n := range w.refs() {
		s.Arena.Things[p].Refs = n
		if w.things[p].Type == api.TyNode {
			s.Nodes[p] = make([]api.Cap, 8)
		}
	}
	for k, c := range w.caps {
		s.Nodes[k.Obj][k.Slot] = c
	}
	return s
}

// way are the places to which an address leads, one level behind the other.
func (w *world) way(core int, word uint64) ([]api.Key, bool) {
	l, e := addr.Parse(word)
	if e != api.OK || core < 0 || core >= len(w.roots) {
		return nil, false
	}
	node, guard, may := w.roots[core], 0, true
	var way []api.Key
	for _, step := range l {
		if !may || step.Guard != guard {
			return nil, false
		}
		k := key(node, step.Index)
		way = append(way, k)
		c := w.caps[k]
		node, guard, may = c.Obj, c.Badge, c.Type == api.TyNode && c.Rights&1 != 0
	}
	return way, true
}

// last is the place of an address.
func (w *world) last(core int, word uint64) (api.Key, bool) {
	way, ok := w.way(core, word)
	if !ok {
		return api.Key{}, false
	}
	return way[len(way)-1], true
}

func (w *world) isBusy(k api.Key) bool {
	for _, x := range w.sweeps {
		if x.On && !x.Lost && x.Key == k {
			return true
		}
	}
	return w.mark[k]
}

func (w *world) isWaiting(core int) bool {
	for _, p := range w.ports {
		for _, one := range p.Queue {
			if one.Core == core {
				return true
			}
		}
	}
	return false
}

func (w *world) isSilent(core int) bool {
	return core < 0 || core >= len(w.roots) || w.isWaiting(core) || w.sweeps[core].On
}

func one(core int, r api.Reply) []api.Done { return []api.Done{{Core: core, Reply: r}} }

func code(core int, e api.Errno) []api.Done { return one(core, api.Reply{Code: e}) }

// needs is how much memory there must be for an object; 0: it may not be.
func needs(c api.Call) int {
	switch c.Type {
	case api.TyNode:
		return 64
	case api.TyFrame:
		return 16
	case api.TyEndpoint, api.TyNotice:
		return 4
	}
	for n := 1; n <= 1<<20; n *= 2 {
		if c.Size == n {
			return n
		}
	}
	return 0
}

// cut is where memory for a retype from the object obj begins, and whether there is enough.
func (w *world) cut(obj int, c api.Call) (int, bool) {
	size := needs(c)
	if size == 0 {
		return 0, true
	}
	u := w.things[obj]
	at := u.Start
	for p, t := range w.things {
		if w.isLive(p) && t.From == obj {
			at = u.Start + u.Water
		}
	}
	for at%size != 0 {
		at++
	}
	return at, at+size <= u.Start+u.Size
}

// refusal is the error of a call that call.Check takes: each kind's causes as the document's table has them.
func (w *world) refusal(core int, c api.Call) api.Errno {
	a, okA := w.last(core, c.A)
	b, okB := w.last(core, c.B)
	from, some := w.caps[a]
	_, taken := w.caps[b]
	lost, busy, there := !okA || !okB, w.isBusy(a), taken
	lacks := func(rights int) bool { return rights&^from.Rights != 0 }
	give := 2
	if c.B == 0 {
		lost = !okA
	} else {
		give = 6
	}
	full := len(w.caps) >= mostTree
	switch c.Kind {
	case api.CaMint:
		badged := c.Badge != 0 && (from.Badge != 0 || from.Type != api.TyEndpoint && from.Type != api.TyNotice)
		return first(lost, api.ErrAddr, !some, api.ErrNone, busy, api.ErrBusy, there, api.ErrThere,
			lacks(c.Rights), api.ErrRights, badged, api.ErrArg, full, api.ErrMany)
	case api.CaMove:
		return first(lost, api.ErrAddr, !some, api.ErrNone, busy, api.ErrBusy, there, api.ErrThere)
	case api.CaDelete:
		if e := first(lost, api.ErrAddr, !some, api.ErrNone, busy, api.ErrBusy, len(w.below(a)) > 0, api.ErrKids); e != api.OK {
			return e
		}
		return first(w.overflows(core, a), api.ErrLimbo)
	case api.CaRevoke:
		return first(lost, api.ErrAddr, !some, api.ErrNone, busy, api.ErrBusy)
	case api.CaRetype:
		_, fits := w.cut(from.Obj, c)
		return first(lost, api.ErrAddr, !some, api.ErrNone, from.Type != api.TyUntyped, api.ErrType, lacks(2), api.ErrRights, busy, api.ErrBusy,
			there, api.ErrThere, needs(c) == 0, api.ErrArg, !fits, api.ErrSpace, len(w.free[core]) == 0, api.ErrFull, full, api.ErrMany)
	case api.CaLook:
		return first(lost, api.ErrAddr)
	}
	kind := map[int]int{api.CaRead: api.TyFrame, api.CaWrite: api.TyFrame, api.CaSend: api.TyEndpoint, api.CaRecv: api.TyEndpoint, api.CaSignal: api.TyNotice, api.CaWait: api.TyNotice}
	need := map[int]int{api.CaRead: 1, api.CaWrite: 2, api.CaSend: give, api.CaRecv: 1, api.CaSignal: 2, api.CaWait: 1}
	return first(lost, api.ErrAddr, !some, api.ErrNone, from.Type != kind[c.Kind], api.ErrType, lacks(need[c.Kind]), api.ErrRights)
}

// do is what the document says of Do.
func (w *world) do(core int, c api.Call) []api.Done {
	if w.isSilent(core) {
		return nil
	}
	if call.Check(c) != api.OK {
		return code(core, api.ErrCall)
	}
	if e := w.refusal(core, c); e != api.OK {
		return code(core, e)
	}
	a, _ := w.last(core, c.A)
	b, _ := w.last(core, c.B)
	from := w.caps[a]
	switch c.Kind {
	case api.CaMint:
		from.Rights = c.Rights
		if c.Badge != 0 {
			from.Badge = c.Badge
		}
		w.grow(a, b, from)
	case api.CaMove:
		w.rename(a, b)
	case api.CaDelete:
		return append(code(core, api.OK), w.cutOff(core, a)...)
	case api.CaRevoke:
		return w.revoke(core, a)
	case api.CaRetype:
		w.create(core, a, b, c)
	case api.CaRead:
		return one(core, api.Reply{Value: w.things[from.Obj].Value})
	case api.CaWrite:
		w.things[from.Obj].Value = c.Value
	case api.CaLook:
		v := from.Type + from.Rights<<4 + from.Badge<<8 + from.Obj<<24 + from.Gen<<34
		return one(core, api.Reply{Value: int64(v)})
	case api.CaSend, api.CaRecv:
		return w.come(core, a, b, c)
	case api.CaSignal, api.CaWait:
		return w.notice(core, from, c.Kind)
	}
	return code(core, api.OK)
}

func (w *world) grow(from, k api.Key, c api.Cap) {
	w.bear(k, c)
	w.up[k] = from
}

// rename has k be called to, wherever it is known.
func (w *world) rename(k, to api.Key) {
	w.caps[to], w.born[to] = w.caps[k], w.born[k]
	if from, ok := w.up[k]; ok {
		w.up[to] = from
	}
	for kid, from := range w.up {
		if from == k {
			w.up[kid] = to
		}
	}
	w.forget(k)
}

func (w *world) forget(k api.Key) {
	delete(w.caps, k)
	delete(w.up, k)
	delete(w.born, k)
	delete(w.mark, k)
}

func (w *world) create(core int, a, b api.Key, c api.Call) {
	u := w.caps[a].Obj
	at, _ := w.cut(u, c)
	p := w.free[core][0]
	w.free[core] = w.free[core][1:]
	w.things[u].Water = at + needs(c) - w.things[u].Start
	w.things[p] = api.Thing{Type: c.Type, Gen: w.things[p].Gen, Start: at, Size: needs(c), From: u}
	w.grow(a, b, api.Cap{Type: c.Type, Rights: 15, Obj: p, Gen: w.things[p].Gen})
}

// cutOff takes what is at k away, and lets all die that nobody refers to: who is answered by it.
func (w *world) cutOff(core int, k api.Key) []api.Done {
	w.forget(k)
	for i := range w.sweeps {
		if w.sweeps[i].On && w.sweeps[i].Key == k {
			w.sweeps[i].Lost = true
		}
	}
	var l []api.Done
	for {
		refs := w.refs()
		p := 0
		for p < len(refs) && (refs[p] > 0 || !w.isLive(p)) {
			p++
		}
		if p == len(refs) {
			return l
		}
		for _, waiter := range w.ports[p].Queue {
			l = append(l, code(waiter.Core, api.ErrGone)...)
		}
		w.ports[p] = api.Port{}
		gen := w.things[p].Gen + 1
		if gen > 4095 {
			gen = -1
		}
		w.things[p] = api.Thing{Gen: gen, From: -1}
		w.limbo[core] = append(w.limbo[core], p)
	}
}

func (w *world) overflows(core int, k api.Key) bool {
	n := w.clone()
	n.cutOff(core, k)
	return len(n.limbo[core]) > mostLimbo
}

// come is what the document says of who sends, or receives, at an endpoint.
func (w *world) come(core int, a, b api.Key, c api.Call) []api.Done {
	from := w.caps[a]
	me := api.Waiter{Core: core, Has: c.B != 0}
	if me.Has {
		me.Slot, me.Gen = b, w.things[b.Obj].Gen
	}
	kind := 2
	if c.Kind == api.CaSend {
		kind = 1
		me.Value, me.Badge, me.Grant = c.Value, from.Badge, me.Has
	}
	p := &w.ports[from.Obj]
	if p.Kind != 3-kind {
		p.Kind, p.Queue = kind, append(p.Queue, me)
		return nil
	}
	other := p.Queue[0]
	p.Queue = p.Queue[1:]
	if len(p.Queue) == 0 {
		p.Kind = 0
	}
	f, t := me, other
	if kind == 2 {
		f, t = other, me
	}
	goes := w.hands(f, t)
	got := api.Done{Core: t.Core, Reply: api.Reply{Value: f.Value, Badge: f.Badge, Cap: goes}}
	gave := api.Done{Core: f.Core, Reply: api.Reply{Cap: goes}}
	if kind == 1 {
		return []api.Done{gave, got}
	}
	return []api.Done{got, gave}
}

// hands gives what f has to t, if each cause not to is absent.
func (w *world) hands(f, t api.Waiter) bool {
	for _, x := range []api.Waiter{f, t} {
		if !x.Has || w.things[x.Slot.Obj].Type != api.TyNode || w.things[x.Slot.Obj].Gen != x.Gen {
			return false
		}
	}
	c, some := w.caps[f.Slot]
	_, taken := w.caps[t.Slot]
	if !some || w.isBusy(f.Slot) || taken || len(w.caps) >= mostTree {
		return false
	}
	w.grow(f.Slot, t.Slot, c)
	return true
}

// notice is what the document says of CaSignal and CaWait.
func (w *world) notice(core int, c api.Cap, kind int) []api.Done {
	p := &w.ports[c.Obj]
	bits := int64(c.Badge)
	if bits == 0 {
		bits = bare
	}
	switch {
	case kind == api.CaWait && p.Word != 0:
		v := p.Word
		p.Word = 0
		return one(core, api.Reply{Value: v})
	case kind == api.CaWait:
		p.Kind, p.Queue = 2, append(p.Queue, api.Waiter{Core: core})
		return nil
	case p.Kind == 2:
		woken := p.Queue[0].Core
		p.Queue = p.Queue[1:]
		if len(p.Queue) == 0 {
			p.Kind = 0
		}
		return append(code(core, api.OK), one(woken, api.Reply{Value: bits})...)
	}
	p.Word |= bits
	return code(core, api.OK)
}

// revoke has all turns at once: the caller's reply, which comes last, is told first.
func (w *world) revoke(core int, a api.Key) []api.Done {
	w.sweeps[core] = api.Sweep{On: true, Key: a}
	var others []api.Done
	for {
		l := w.turn(core)
		if len(l) > 0 && l[0].Core == core {
			return append(l, others...)
		}
		others = append(others, l...)
	}
}

// begin and turn are what the document says of Begin and Turn.
func (w *world) begin(core int, c api.Call) []api.Done {
	if w.isSilent(core) {
		return nil
	}
	if call.Check(c) != api.OK || c.Kind != api.CaRevoke {
		return code(core, api.ErrCall)
	}
	if e := w.refusal(core, c); e != api.OK {
		return code(core, e)
	}
	a, _ := w.last(core, c.A)
	w.sweeps[core] = api.Sweep{On: true, Key: a}
	return nil
}

func (w *world) turn(core int) []api.Done {
	if core < 0 || core >= len(w.sweeps) || !w.sweeps[core].On {
		return nil
	}
	x := w.sweeps[core]
	over := func(e api.Errno) []api.Done {
		w.sweeps[core] = api.Sweep{}
		return code(core, e)
	}
	if x.Lost {
		return over(api.ErrGone)
	}
	l := w.below(x.Key)
	if len(l) == 0 {
		return over(api.OK)
	}
	for _, k := range l {
		if !w.mark[k] {
			w.mark[k] = true
			return nil
		}
	}
	end := l[len(l)-1]
	if !w.overflows(core, end) {
		return w.cutOff(core, end)
	}
	done := over(api.ErrLimbo)
	for _, k := range l {
		kept := false
		for _, other := range w.sweeps {
			kept = kept || other.On && !other.Lost && w.isBelow(k, other.Key)
		}
		if !kept {
			delete(w.mark, k)
		}
	}
	return done
}

// give is what the document says of Free.
func (w *world) give(core int) (int, bool) {
	if core < 0 || core >= len(w.limbo) || len(w.limbo[core]) == 0 {
		return 0, false
	}
	p := w.limbo[core][0]
	w.limbo[core] = w.limbo[core][1:]
	if w.things[p].Gen != -1 {
		w.free[core] = append(w.free[core], p)
	}
	return p, true
}

// touch is what the document says of Touch.
func (w *world) touch(core int, c api.Call) []api.Key {
	if call.Check(c) != api.OK {
		return nil
	}
	all := map[api.Key]int{}
	laid := w.tree()
	for i, word := range []uint64{c.A, c.B} {
		way, ok := w.way(core, word)
		if !ok {
			continue
		}
		for _, k := range way {
			all[k], all[key(k.Obj, -1)] = 1, 1
		}
		last := way[len(way)-1]
		if has, some := w.caps[last]; some && i == 0 {
			all[key(has.Obj, -1)] = 1
		}
		under := len(w.below(last))
		for n, b := range laid {
			if b.Key != last {
				continue
			}
			for _, m := range []int{n - 1, n + 1, n + under + 1} {
				if m >= 0 && m < len(laid) && (m < n+2 || i == 0) {
					all[laid[m].Key] = 1
				}
			}
		}
	}
	return slices.SortedFunc(maps.Keys(all), func(a, b api.Key) int { return cmp.Or(cmp.Compare(a.Obj, b.Obj), cmp.Compare(a.Slot, b.Slot)) })
}

package model

import (
	"fmt"
	"slices"
	"testing"

	"garrison/addr"
	"garrison/api"
	"garrison/call"
)

// like says whether two states are the same; nil is an empty list.
func like(a, b api.State) bool {
	ports := func(p, q api.Port) bool {
		return p.Kind == q.Kind && p.Word == q.Word && slices.Equal(p.Queue, q.Queue)
	}
	return slices.Equal(a.Arena.Things, b.Arena.Things) && slices.EqualFunc(a.Arena.Free, b.Arena.Free, slices.Equal) &&
		slices.EqualFunc(a.Nodes, b.Nodes, slices.Equal) && slices.Equal(a.Tree, b.Tree) && slices.EqualFunc(a.Ports, b.Ports, ports) &&
		slices.EqualFunc(a.Limbo, b.Limbo, slices.Equal) && slices.Equal(a.Roots, b.Roots) && slices.Equal(a.Sweeps, b.Sweeps)
}

const room = 3 // behind each list

// roomyList is l in memory of its own, with filled room behind it; roomyState is s with all its lists so.
func roomyList[T any](l []T, fill T) []T {
	m := append(make([]T, 0, len(l)+room), l...)
	for range room {
		m = append(m, fill)
	}
	return m[:len(l)]
}

func roomyLists[T any](l [][]T, fill T) [][]T {
	m := roomyList(l, []T{fill})
	for i := range m {
		m[i] = roomyList(m[i], fill)
	}
	return m
}

var (
	oddThing  = api.Thing{Type: 3, Gen: 99, Refs: 99}
	oddCap    = api.Cap{Type: 3, Rights: 9, Obj: 99}
	oddBranch = api.Branch{Key: api.Key{Obj: 99}, Depth: 9}
	oddWaiter = api.Waiter{Core: 99, Value: 99}
	oddSweep  = api.Sweep{On: true, Key: api.Key{Obj: 99}}
)

func roomyState(s api.State) api.State {
	r := api.State{Arena: api.Arena{Things: roomyList(s.Arena.Things, oddThing), Free: roomyLists(s.Arena.Free, 99)}, Nodes: roomyLists(s.Nodes, oddCap),
		Tree: roomyList(s.Tree, oddBranch), Ports: roomyList(s.Ports, api.Port{Kind: 9}), Limbo: roomyLists(s.Limbo, 99),
		Roots: roomyList(s.Roots, 99), Sweeps: roomyList(s.Sweeps, oddSweep)}
	for i := range r.Ports {
		r.Ports[i].Queue = roomyList(r.Ports[i].Queue, oddWaiter)
	}
	return r
}

// wholeList is l with the room behind it, wholeState is s with that of all its lists.
func wholeList[T any](l []T) []T { return l[:cap(l)] }

func wholeLists[T any](l [][]T) [][]T {
	var m [][]T
	for _, one := range wholeList(l) {
		m = append(m, wholeList(one))
	}
	return m
}

func wholeState(s api.State) api.State {
	w := api.State{Arena: api.Arena{Things: wholeList(s.Arena.Things), Free: wholeLists(s.Arena.Free)}, Nodes: wholeLists(s.Nodes), Tree: wholeList(s.Tree),
		Limbo: wholeLists(s.Limbo), Roots: wholeList(s.Roots), Sweeps: wholeList(s.Sweeps)}
	for _, p := range wholeList(s.Ports) {
		p.Queue = wholeList(p.Queue)
		w.Ports = append(w.Ports, p)
	}
	return w
}

// kept is a state as it was handed over: with it stays how it and its room were then.
type kept struct {
	s, was, room api.State
}

func keep(s api.State) kept {
	r := roomyState(s)
	return kept{r, roomyState(s), roomyState(wholeState(r))}
}

func (k kept) unchanged() bool { return like(k.s, k.was) && like(wholeState(k.s), k.room) }

// holds says what of P17.9 does not hold in s; the empty text: all does.
func holds(s api.State) string {
	refs := make([]int, len(s.Arena.Things))
	for _, r := range s.Roots {
		if s.Arena.Things[r].Type != api.TyNode {
			return "where addresses begin"
		}
	}
	slots := map[api.Key]bool{}
	for obj, node := range s.Nodes {
		if isNode := s.Arena.Things[obj].Type == api.TyNode; isNode != (len(node) == 8) || !isNode && len(node) != 0 {
			return fmt.Sprint("slots of ", obj)
		}
		for i, c := range node {
			if c == (api.Cap{}) {
				continue
			}
			slots[key(obj, i)] = true
			refs[obj]++
			if c.Obj < 0 || c.Obj >= len(refs) || c.Type == api.TyNone || s.Arena.Things[c.Obj].Type != c.Type || s.Arena.Things[c.Obj].Gen != c.Gen {
				return fmt.Sprint("what ", obj, " has in slot ", i)
			}
			refs[c.Obj]++
		}
	}
	depth := -1
	for _, b := range s.Tree {
		if !slots[b.Key] || b.Depth < 0 || b.Depth > depth+1 {
			return fmt.Sprint("branch ", b)
		}
		delete(slots, b.Key)
		depth = b.Depth
	}
	if len(slots) > 0 {
		return fmt.Sprint("slots without a branch: ", slots)
	}
	return firstText(counts(s, refs), memories(s), places(s), queues(s), marks(s))
}

func firstText(l ...string) string {
	for _, text := range l {
		if text != "" {
			return text
		}
	}
	return ""
}

// counts asks whether each thing's Refs are as they should be; refs has those by capabilities and slots.
func counts(s api.State, refs []int) string {
	for p, t := range s.Arena.Things {
		if t.Type != api.TyNone && t.From >= 0 {
			refs[t.From]++
		}
		if t.Type == api.TyNode && t.From < 0 {
			refs[p]++
		}
	}
	for p, t := range s.Arena.Things {
		if t.Refs != refs[p] || t.Type != api.TyNone && t.Refs == 0 {
			return fmt.Sprint("refs of ", p, ": ", t.Refs, ", not ", refs[p])
		}
	}
	return ""
}

// memories asks whether what was made lies within what it was made from, apart from all else made from that.
func memories(s api.State) string {
	for p, t := range s.Arena.Things {
		if t.Type == api.TyNone || t.From < 0 {
			continue
		}
		u := s.Arena.Things[t.From]
		if u.Type != api.TyUntyped || t.Size < 1 || t.Start < u.Start || t.Start+t.Size > u.Start+u.Size {
			return fmt.Sprint("memory of ", p)
		}
		for q, o := range s.Arena.Things[:p] {
			if o.Type != api.TyNone && o.From == t.From && o.Start < t.Start+t.Size && t.Start < o.Start+o.Size {
				return fmt.Sprint("memory of ", q, " and ", p)
			}
		}
	}
	return ""
}

// places asks whether each place is live, retired, free for one core, or in one limbo.
func places(s api.State) string {
	seen := make([]int, len(s.Arena.Things))
	for _, l := range append(slices.Clone(s.Arena.Free), s.Limbo...) {
		for _, p := range l {
			seen[p]++
		}
	}
	for p, t := range s.Arena.Things {
		if live := t.Type != api.TyNone; live && seen[p] != 0 || !live && seen[p] != 1 && (t.Gen != api.Retired || seen[p] != 0) {
			return fmt.Sprint("place ", p)
		}
	}
	for core, l := range s.Limbo {
		if len(l) > mostLimbo {
			return fmt.Sprint("limbo of ", core)
		}
	}
	return ""
}

// queues asks whether who waits waits at one port.
func queues(s api.State) string {
	seen := map[int]int{}
	for p, q := range s.Ports {
		kind := s.Arena.Things[p].Type
		if kind != api.TyEndpoint && kind != api.TyNotice && (q.Kind != 0 || q.Word != 0 || len(q.Queue) != 0) {
			return fmt.Sprint("port of ", p)
		}
		for _, one := range q.Queue {
			seen[one.Core]++
			if seen[one.Core] > 1 || one.Core < 0 || one.Core >= len(s.Roots) || s.Sweeps[one.Core].On {
				return fmt.Sprint("who waits at ", p)
			}
		}
	}
	return ""
}

// marks asks whether each is below something that is being revoked.
func marks(s api.State) string {
	var deep []int // of the revocations that the branch is below
	for _, b := range s.Tree {
		for len(deep) > 0 && deep[len(deep)-1] >= b.Depth {
			deep = deep[:len(deep)-1]
		}
		if b.Mark && len(deep) == 0 {
			return fmt.Sprint("mark of ", b)
		}
		for _, x := range s.Sweeps {
			if x.On && !x.Lost && x.Key == b.Key {
				deep = append(deep, b.Depth)
			}
		}
	}
	return ""
}

// more says whether t has rights that P17.11 does not let it have: b is the place of the caller's B.
func more(s, t api.State, b api.Key) string {
	isNew := func(c api.Cap) bool {
		was := s.Arena.Things[c.Obj]
		return was.Type == api.TyNone || was.Gen != c.Gen
	}
	for obj, node := range t.Nodes {
		for i, c := range node {
			if was, _ := addr.Get(s.Nodes, key(obj, i)); c == was || c == (api.Cap{}) {
				continue
			}
			if isNew(c) && key(obj, i) != b {
				return fmt.Sprint("a new one at ", obj, " ", i)
			}
			covers := func(l []api.Cap) bool {
				return slices.ContainsFunc(l, func(d api.Cap) bool { return d.Obj == c.Obj && d.Gen == c.Gen && c.Rights&^d.Rights == 0 })
			}
			if !isNew(c) && !slices.ContainsFunc(s.Nodes, covers) {
				return fmt.Sprint("rights at ", obj, " ", i)
			}
		}
	}
	return ""
}

// dice tells numbers that hang on where it began alone.
type dice uint64

func (d *dice) roll(n int) int {
	*d = *d*6364136223846793005 + 1442695040888963407
	return int(uint64(*d) >> 33 % uint64(n))
}

func (d *dice) pick(l ...int) int { return l[d.roll(len(l))] }

// word is an address that leads somewhere, from time to time to nowhere.
func (d *dice) word(s api.State, core int) uint64 {
	var l []api.Step
	node := s.Roots[core]
	for len(l) < 4 {
		i := d.roll(8)
		l = append(l, api.Step{Index: i})
		c := s.Nodes[node][i]
		if d.roll(90) == 0 {
			l[len(l)-1].Guard = d.roll(8)
		}
		if c.Type != api.TyNode && d.roll(60) > 0 || d.roll(3) == 0 {
			break
		}
		if c.Type == api.TyNode {
			node = c.Obj
		}
	}
	w, _ := addr.Put(l...)
	return w
}

// wordTo is one that leads to such a thing, if a few tries find it.
func (d *dice) wordTo(s api.State, core int, such func(api.Cap) bool) uint64 {
	for range 40 {
		w := d.word(s, core)
		if k, ok := placeOf(s, core, w); ok && such(s.Nodes[k.Obj][k.Slot]) {
			return w
		}
	}
	return d.word(s, core)
}

func nothing(c api.Cap) bool { return c == api.Cap{} }

func anything(c api.Cap) bool { return c != api.Cap{} }

// of is one that leads to a thing of that Type, from time to time to another one.
func (d *dice) of(s api.State, core, kind int) uint64 {
	if d.roll(12) == 0 {
		return d.wordTo(s, core, anything)
	}
	return d.wordTo(s, core, func(c api.Cap) bool { return c.Type == kind })
}

func (d *dice) maybe(n int, w uint64) uint64 {
	if d.roll(n) > 0 {
		return w
	}
	return 0
}

// rich is one of the kinds that need A, and mostly B.
func (d *dice) rich(s api.State, core int) api.Call {
	a, b := d.wordTo(s, core, anything), d.wordTo(s, core, nothing)
	if d.roll(12) == 0 {
		b = d.word(s, core)
	}
	if d.roll(12) == 0 {
		a = d.word(s, core)
	}
	rights := 15
	if d.roll(3) == 0 {
		rights = d.roll(16)
	}
	switch d.pick(1, 1, 1, 1, 2, 3, 3, 4, 4, 5, 5, 5, 5, 5, 12) {
	case api.CaMint:
		return api.Call{Kind: api.CaMint, A: a, B: b, Rights: rights, Badge: d.pick(0, 0, 0, 1, 6, 65535)}
	case api.CaMove:
		return api.Call{Kind: api.CaMove, A: a, B: b}
	case api.CaDelete:
		return api.Call{Kind: api.CaDelete, A: a}
	case api.CaRevoke:
		return api.Call{Kind: api.CaRevoke, A: a}
	case api.CaRetype:
		return api.Call{Kind: api.CaRetype, A: d.of(s, core, api.TyUntyped), B: b, Type: d.pick(1, 2, 2, 3, 4, 4, 5), Size: d.pick(0, 1, 3, 16, 64, 64, 256, 256, 1024)}
	}
	return api.Call{Kind: api.CaLook, A: a}
}

// plain is one of the others.
func (d *dice) plain(s api.State, core int) api.Call {
	switch kind := d.pick(6, 7, 8, 8, 9, 9, 10, 11, 13); kind {
	case api.CaRead, api.CaSignal, api.CaWait:
		of := map[int]int{api.CaRead: api.TyFrame, api.CaSignal: api.TyNotice, api.CaWait: api.TyNotice}
		return api.Call{Kind: kind, A: d.of(s, core, of[kind])}
	case api.CaWrite:
		return api.Call{Kind: api.CaWrite, A: d.of(s, core, api.TyFrame), Value: int64(d.roll(100)) - 50}
	case api.CaSend:
		return api.Call{Kind: api.CaSend, A: d.of(s, core, api.TyEndpoint), B: d.maybe(3, d.wordTo(s, core, anything)), Value: int64(d.roll(100))}
	case api.CaRecv:
		return api.Call{Kind: api.CaRecv, A: d.of(s, core, api.TyEndpoint), B: d.maybe(3, d.wordTo(s, core, nothing))}
	}
	return api.Call{Kind: d.roll(15) - 1, A: d.word(s, core), B: d.maybe(2, d.word(s, core)), Size: d.roll(3)}
}

// call is one of each kind, mostly such that it can be done.
func (d *dice) call(s api.State, core int) api.Call {
	if d.roll(2) == 0 {
		return d.plain(s, core)
	}
	return d.rich(s, core)
}

// placeOf is the place of an address word.
func placeOf(s api.State, core int, word uint64) (api.Key, bool) {
	l, _ := addr.Parse(word)
	k, _, e := addr.Find(s.Nodes, Root(s, core), l)
	return k, e == api.OK
}

// outside says which slot a call has changed, from s to t, that is none of keys: neither did it die, nor was it taken from, or given to, one who was met.
func outside(s, t api.State, keys []api.Key, done []api.Done) string {
	for _, p := range s.Ports {
		for _, w := range p.Queue {
			if slices.ContainsFunc(done, func(d api.Done) bool { return d.Core == w.Core }) {
				keys = append(keys, w.Slot)
			}
		}
	}
	for obj, node := range s.Nodes {
		if t.Arena.Things[obj].Gen != s.Arena.Things[obj].Gen {
			continue
		}
		for i, c := range node {
			if t.Nodes[obj][i] != c && !slices.Contains(keys, key(obj, i)) {
				return fmt.Sprint("slot ", i, " of ", obj)
			}
		}
	}
	return ""
}

// leftBelow says whether something is below k.
func leftBelow(s api.State, k api.Key) bool {
	for i, b := range s.Tree {
		if b.Key == k {
			return i+1 < len(s.Tree) && s.Tree[i+1].Depth > b.Depth
		}
	}
	return false
}

// trial is a long run: the state by calls here, and by the second telling.
type trial struct {
	t    *testing.T
	s    api.State
	w    *world
	seen map[string]int
	past []kept
}

// deed is something that both do: its name, who does it, and the call, if there is one.
type deed struct {
	name  string
	core  int
	c     api.Call
	here  func(api.State) (api.State, []api.Done)
	there func() []api.Done
}

func (x *trial) do(core int, c api.Call) deed {
	return deed{"Do", core, c, func(s api.State) (api.State, []api.Done) { return Do(s, core, c) }, func() []api.Done { return x.w.do(core, c) }}
}

func (x *trial) begin(core int, c api.Call) deed {
	return deed{"Begin", core, c, func(s api.State) (api.State, []api.Done) { return Begin(s, core, c) }, func() []api.Done { return x.w.begin(core, c) }}
}

func (x *trial) turn(core int) deed {
	return deed{"Turn", core, api.Call{}, func(s api.State) (api.State, []api.Done) { return Turn(s, core) }, func() []api.Done { return x.w.turn(core) }}
}

// free has the place and the answer told as a reply.
func (x *trial) free(core int) deed {
	told := func(p int, ok bool) []api.Done { return one(core, api.Reply{Value: int64(p), Cap: ok}) }
	return deed{"Free", core, api.Call{}, func(s api.State) (api.State, []api.Done) {
		n, p, ok := Free(s, core)
		return n, told(p, ok)
	}, func() []api.Done { return told(x.w.give(core)) }}
}

// step has both do it, and holds what comes of it against each other, and against what follows.
func (x *trial) step(d deed) {
	x.t.Helper()
	k := keep(x.s)
	fail := func(l ...any) {
		x.t.Helper()
		x.t.Fatalf("%s by %d of %+v on\n%+v\n%s", d.name, d.core, d.c, x.s, fmt.Sprintln(l...))
	}
	keys := Touch(k.s, d.core, d.c)
	if want := x.w.touch(d.core, d.c); !slices.Equal(keys, want) {
		fail("Touch", keys, want)
	}
	s, done := d.here(k.s)
	want := d.there()
	told := x.w.state()
	if !slices.Equal(done, want) || !like(s, told) {
		fail("is", done, s, "not", want, told)
	}
	b, _ := placeOf(x.s, d.core, d.c.B)
	wrong := firstText(holds(s), more(x.s, s, b))
	if d.name == "Begin" || d.name == "Do" && d.c.Kind != api.CaRevoke {
		wrong = firstText(wrong, outside(x.s, s, keys, done))
	}
	if wrong != "" || !k.unchanged() || Same(x.s, s) != like(x.s, s) || !Same(s, told) || !Same(told, s) {
		fail("leaves", s, "wrong:", wrong, "handed over:", k.s)
	}
	if x.leaves(d, s, done) {
		fail("leaves what is below:", s)
	}
	x.told(d, s, done)
	x.past = append(x.past, k)
	x.s = s
}

// leaves says whether P17.10 does not hold: a revocation is answered OK, and something is below its place.
func (x *trial) leaves(d deed, s api.State, done []api.Done) bool {
	place, is := placeOf(x.s, d.core, d.c.A)
	is = is && d.name == "Do" && d.c.Kind == api.CaRevoke
	if d.name == "Turn" && d.core >= 0 && d.core < len(x.s.Sweeps) {
		place, is = x.s.Sweeps[d.core].Key, true
	}
	return is && len(done) > 0 && done[0].Core == d.core && done[0].Reply.Code == api.OK && leftBelow(s, place)
}

// told counts what has come of what, and asks who waits.
func (x *trial) told(d deed, s api.State, done []api.Done) {
	x.t.Helper()
	for core := -1; core <= len(s.Roots); core++ {
		if Waits(s, core) != x.w.isWaiting(core) {
			x.t.Fatal("Waits", core, s.Ports)
		}
	}
	name := d.name + " " + call.Name(d.c.Kind)
	if len(done) == 0 {
		x.seen[name+" none"]++
	}
	for _, one := range done {
		who := "other"
		if one.Core == d.core {
			who = "own"
		}
		x.seen[fmt.Sprint(name, " ", who, " ", int(one.Reply.Code), " ", one.Reply.Cap)]++
	}
}

// busyCores are those that can do something.
func (x *trial) busyCores() []int {
	var l []int
	for core := range x.s.Roots {
		if !x.w.isWaiting(core) {
			l = append(l, core)
		}
	}
	return l
}

// woken is c, but of the last core that does not wait it is one that wakes somebody, or a look: so that they do not all wait.
func (x *trial) woken(core int, c api.Call) api.Call {
	k, ok := placeOf(x.s, core, c.A)
	if !ok || len(x.busyCores()) > 1 || c.Kind != api.CaSend && c.Kind != api.CaRecv && c.Kind != api.CaWait {
		return c
	}
	at, _ := addr.Get(x.s.Nodes, k)
	switch p := x.s.Ports[at.Obj]; {
	case p.Kind == 1:
		return api.Call{Kind: api.CaRecv, A: c.A, B: c.B}
	case p.Kind == 2 && at.Type == api.TyEndpoint:
		return api.Call{Kind: api.CaSend, A: c.A, B: c.B}
	case p.Kind == 2:
		return api.Call{Kind: api.CaSignal, A: c.A}
	}
	return api.Call{Kind: api.CaLook, A: c.A}
}

// next is what is done next: mostly by a core that can do something. Of thrifty runs places are hardly ever given back.
func (x *trial) next(d *dice, thrifty bool) deed {
	busy := x.busyCores()
	core := busy[d.roll(len(busy))]
	often := 4
	if thrifty {
		often = 100
	}
	switch {
	case d.roll(40) == 0:
		odd := d.pick(-1, len(x.s.Roots), core, d.roll(len(x.s.Roots)), d.roll(len(x.s.Roots)))
		if odd == core || x.w.isSilent(odd) {
			return []deed{x.do(odd, api.Call{Kind: api.CaMint + d.roll(2)*11, A: d.word(x.s, core)}), x.begin(odd, d.call(x.s, core)), x.turn(odd), x.free(odd)}[d.roll(4)]
		}
	case x.s.Sweeps[core].On:
		return x.turn(core)
	case len(x.s.Limbo[core]) > 0 && d.roll(often) == 0:
		return x.free(core)
	}
	c := x.woken(core, d.call(x.s, core))
	if c.Kind == api.CaRevoke && d.roll(3) > 0 {
		return x.begin(core, c)
	}
	return x.do(core, c)
}

// settings are kernels of many sizes: cores, objs, space, domains, and how many runs of how many steps.
var settings = [][6]int{{1, 5, 1024, 1, 20, 60}, {1, 64, 4096, 1, 4, 200}, {2, 9, 1024, 2, 20, 150}, {2, 3, 64, 1, 10, 50}, {3, 12, 256, 1, 20, 200},
	{4, 20, 4096, 2, 12, 400}, {5, 40, 2048, 1, 8, 600}, {3, 40, 1 << 18, 3, 8, 400}, {8, 64, 4096, 1, 6, 800}, {64, 64, 1 << 12, 4, 2, 500}}

// must are things that long runs have to come by, by the call, the kind, who is answered, the reply's Code and Cap.
var must = []string{
	"Do mint own 0 false", "Do mint own 120 false", "Do mint own 7 false", "Do mint own 170 false", "Do mint own 8 false", "Do mint own 20 false", "Do mint own 2 false", "Do mint own 150 false",
	"Do move own 0 false", "Do move own 120 false", "Do move own 7 false", "Do move own 170 false", "Do move own 8 false",
	"Do delete own 0 false", "Do delete own 120 false", "Do delete own 7 false", "Do delete own 170 false", "Do delete own 130 false", "Do delete own 171 false", "Do delete other 80 false",
	"Do revoke own 0 false", "Do revoke own 120 false", "Do revoke own 7 false", "Do revoke own 170 false", "Do revoke own 171 false", "Do revoke other 80 false",
	"Do retype own 0 false", "Do retype own 120 false", "Do retype own 7 false", "Do retype own 172 false", "Do retype own 20 false", "Do retype own 170 false", "Do retype own 8 false",
	"Do retype own 2 false", "Do retype own 173 false", "Do retype own 5 false",
	"Do read own 0 false", "Do read own 120 false", "Do read own 7 false", "Do read own 172 false", "Do read own 20 false",
	"Do write own 0 false", "Do write own 120 false", "Do write own 7 false", "Do write own 172 false", "Do write own 20 false",
	"Do send own 0 false", "Do send own 0 true", "Do send other 0 false", "Do send other 0 true", "Do send none", "Do send own 120 false", "Do send own 7 false", "Do send own 172 false", "Do send own 20 false",
	"Do recv own 0 false", "Do recv own 0 true", "Do recv other 0 false", "Do recv other 0 true", "Do recv none", "Do recv own 120 false", "Do recv own 7 false", "Do recv own 172 false", "Do recv own 20 false",
	"Do signal own 0 false", "Do signal other 0 false", "Do signal own 120 false", "Do signal own 7 false", "Do signal own 172 false", "Do signal own 20 false",
	"Do wait own 0 false", "Do wait none", "Do wait own 120 false", "Do wait own 7 false", "Do wait own 172 false", "Do wait own 20 false",
	"Do look own 0 false", "Do look own 120 false", "Do look none", "Do  own 150 false",
	"Begin revoke none", "Begin revoke own 120 false", "Begin revoke own 7 false", "Begin revoke own 170 false", "Begin mint own 150 false",
	"Turn  none", "Turn  other 80 false", "Turn  own 0 false", "Turn  own 171 false", "Turn  own 80 false", "Free  own 0 true", "Free  own 0 false",
}

// TestLongRuns: P17.2 to P17.11, behind each of many calls of several cores.
func TestLongRuns(t *testing.T) {
	seen := map[string]int{}
	for i, set := range settings {
		for run := range set[4] {
			d := dice(i*1000 + run)
			s, e := New(set[0], set[1], set[2], set[3])
			x := trial{t: t, s: s, w: begun(set[0], set[1], set[2], set[3]), seen: seen}
			if e != api.OK || !like(s, x.w.state()) || holds(s) != "" {
				t.Fatal(set, s, e)
			}
			for range set[5] {
				x.step(x.next(&d, run%2 == 1))
			}
			for _, k := range x.past {
				if !k.unchanged() {
					t.Fatal("changed by calls behind it", k)
				}
			}
		}
	}
	for _, name := range must {
		if seen[name] == 0 {
			t.Error("never seen:", name)
		}
	}
}

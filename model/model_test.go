package model

import (
	"math"
	"slices"
	"testing"

	"garrison/addr"
	"garrison/api"
	"garrison/cap"
)

// ends are numbers at the ends of int, and such as are small again if bits of them are lost.
var ends = []int{math.MinInt, math.MinInt + 1, math.MaxInt, math.MaxInt - 1, 1 << 31, -1 << 31, 1 << 32, 1<<32 + 1, 1<<32 + 2, -1 << 32, 1<<32 + 1024, 1 << 61, 1 << 62, -1 << 62, 1<<62 + 1}

// to is an address of these slots, with guards 0.
func to(l ...int) uint64 {
	var steps []api.Step
	for _, i := range l {
		steps = append(steps, api.Step{Index: i})
	}
	w, _ := addr.Put(steps...)
	return w
}

// The calls, in short forms.

func mint(a, b uint64, rights, badge int) api.Call {
	return api.Call{Kind: api.CaMint, A: a, B: b, Rights: rights, Badge: badge}
}

func move(a, b uint64) api.Call { return api.Call{Kind: api.CaMove, A: a, B: b} }

func erase(a uint64) api.Call { return api.Call{Kind: api.CaDelete, A: a} }

func revoke(a uint64) api.Call { return api.Call{Kind: api.CaRevoke, A: a} }

func retype(a, b uint64, kind, size int) api.Call {
	return api.Call{Kind: api.CaRetype, A: a, B: b, Type: kind, Size: size}
}

func read(a uint64) api.Call { return api.Call{Kind: api.CaRead, A: a} }

func write(a uint64, v int64) api.Call { return api.Call{Kind: api.CaWrite, A: a, Value: v} }

func send(a uint64, v int64, b uint64) api.Call {
	return api.Call{Kind: api.CaSend, A: a, B: b, Value: v}
}

func recv(a, b uint64) api.Call { return api.Call{Kind: api.CaRecv, A: a, B: b} }

func signal(a uint64) api.Call { return api.Call{Kind: api.CaSignal, A: a} }

func wait(a uint64) api.Call { return api.Call{Kind: api.CaWait, A: a} }

func look(a uint64) api.Call { return api.Call{Kind: api.CaLook, A: a} }

// scene is a kernel while a test goes on. Each call on it must leave what it is handed as it was, and lead to what holds.
type scene struct {
	t    *testing.T
	s    api.State
	wild bool // the state was made by hand: it need not hold
}

func set(t *testing.T, cores, objs, space, domains int) *scene {
	t.Helper()
	s, e := New(cores, objs, space, domains)
	if e != api.OK {
		t.Fatal("New", cores, objs, space, domains, e)
	}
	return &scene{t: t, s: s}
}

// goes has one of the calls go on, and has its replies be these.
func (x *scene) goes(name string, f func(api.State) (api.State, []api.Done), want []api.Done) {
	x.t.Helper()
	k := keep(x.s)
	s, done := f(k.s)
	if !slices.Equal(done, want) {
		x.t.Fatalf("%s on\n%+v\nis answered %+v, not %+v", name, x.s, done, want)
	}
	if text := holds(s); text != "" && !x.wild {
		x.t.Fatalf("%s on\n%+v\nleaves\n%+v\nin which it does not hold: %s", name, x.s, s, text)
	}
	if !k.unchanged() {
		x.t.Fatalf("%s changes what it is handed: %+v", name, k.s)
	}
	x.s = s
}

func (x *scene) does(core int, c api.Call, want ...api.Done) {
	x.t.Helper()
	x.goes("Do", func(s api.State) (api.State, []api.Done) { return Do(s, core, c) }, want)
}

// ok has each of the calls be answered OK, and nobody else.
func (x *scene) ok(core int, l ...api.Call) {
	x.t.Helper()
	for _, c := range l {
		x.does(core, c, code(core, api.OK)...)
	}
}

// refused has a call be answered with that error, and nothing change.
func (x *scene) refused(core int, c api.Call, e api.Errno) {
	x.t.Helper()
	was := x.s
	x.does(core, c, code(core, e)...)
	x.is(was)
}

func (x *scene) is(want api.State) {
	x.t.Helper()
	if !like(x.s, want) {
		x.t.Fatalf("is\n%+v\nnot\n%+v", x.s, want)
	}
}

func (x *scene) begins(core int, c api.Call, want ...api.Done) {
	x.t.Helper()
	x.goes("Begin", func(s api.State) (api.State, []api.Done) { return Begin(s, core, c) }, want)
}

func (x *scene) turns(core int, want ...api.Done) {
	x.t.Helper()
	x.goes("Turn", func(s api.State) (api.State, []api.Done) { return Turn(s, core) }, want)
}

// frees has that place be given to the core.
func (x *scene) frees(core, place int) {
	x.t.Helper()
	x.goes("Free", func(s api.State) (api.State, []api.Done) {
		n, p, ok := Free(s, core)
		if p != place || !ok {
			x.t.Fatal("Free", core, p, ok)
		}
		return n, nil
	}, nil)
}

func (x *scene) cap(obj, slot int) api.Cap { return x.s.Nodes[obj][slot] }

func (x *scene) has(obj, slot int, want api.Cap) {
	x.t.Helper()
	if x.cap(obj, slot) != want {
		x.t.Fatal(obj, slot, "has", x.cap(obj, slot), "not", want)
	}
}

func (x *scene) thing(obj int, want api.Thing) {
	x.t.Helper()
	if x.s.Arena.Things[obj] != want {
		x.t.Fatal(obj, "is", x.s.Arena.Things[obj], "not", want)
	}
}

func (x *scene) refs(want ...int) {
	x.t.Helper()
	for p, n := range want {
		if x.s.Arena.Things[p].Refs != n {
			x.t.Fatal("Refs of", p, "are", x.s.Arena.Things[p].Refs, "not", n)
		}
	}
}

func (x *scene) limbo(core int, want ...int) {
	x.t.Helper()
	if !slices.Equal(x.s.Limbo[core], want) {
		x.t.Fatal("Limbo is", x.s.Limbo[core], "not", want)
	}
}

// twig is a branch, in short.
func twig(obj, slot, depth int) api.Branch { return api.Branch{Key: key(obj, slot), Depth: depth} }

func marked(b api.Branch) api.Branch { b.Mark = true; return b }

func (x *scene) tree(want ...api.Branch) {
	x.t.Helper()
	if !slices.Equal(x.s.Tree, want) {
		x.t.Fatal("the tree is", x.s.Tree, "not", want)
	}
}

// TestNew: P17.1, of numbers that may be, and that may not.
func TestNew(t *testing.T) {
	empty := api.Thing{From: -1}
	got, e := New(1, 5, 1024, 1)
	want := api.State{
		Arena: api.Arena{Things: []api.Thing{{Type: api.TyNode, Refs: 3, From: -1}, {Type: api.TyUntyped, Refs: 1, Size: 1024, From: -1},
			{Type: api.TyEndpoint, Refs: 1, From: -1}, empty, empty}, Free: [][]int{{3, 4}}},
		Nodes: [][]api.Cap{{{Type: api.TyUntyped, Rights: 15, Obj: 1}, {Type: api.TyEndpoint, Rights: 15, Obj: 2}, 7: {}}, nil, nil, nil, nil},
		Tree:  []api.Branch{twig(0, 0, 0), twig(0, 1, 0)}, Ports: make([]api.Port, 5), Limbo: [][]int{nil}, Roots: []int{0}, Sweeps: make([]api.Sweep, 1),
	}
	if e != api.OK || !like(got, want) {
		t.Fatalf("%+v %v", got, e)
	}
	got, e = New(3, 9, 64, 2)
	node, mem := api.Thing{Type: api.TyNode, Refs: 3, From: -1}, api.Thing{Type: api.TyUntyped, Refs: 1, Size: 64, From: -1}
	second := mem
	second.Start = 64
	want = api.State{
		Arena: api.Arena{Things: []api.Thing{node, node, mem, second, {Type: api.TyEndpoint, Refs: 2, From: -1}, empty, empty, empty, empty},
			Free: [][]int{{6}, {7}, {5, 8}}},
		Nodes: [][]api.Cap{{{Type: api.TyUntyped, Rights: 15, Obj: 2}, {Type: api.TyEndpoint, Rights: 15, Obj: 4}, 7: {}},
			{{Type: api.TyUntyped, Rights: 15, Obj: 3}, {Type: api.TyEndpoint, Rights: 15, Obj: 4}, 7: {}}, nil, nil, nil, nil, nil, nil, nil},
		Tree:  []api.Branch{twig(0, 0, 0), twig(0, 1, 0), twig(1, 0, 0), twig(1, 1, 0)},
		Ports: make([]api.Port, 9), Limbo: make([][]int, 3), Roots: []int{0, 1, 0}, Sweeps: make([]api.Sweep, 3),
	}
	if e != api.OK || !like(got, want) {
		t.Fatalf("%+v %v", got, e)
	}
}

func TestNewOfAll(t *testing.T) {
	for _, domains := range append([]int{-1, 0, 1, 2, 3, mostDomains, mostDomains + 1}, ends...) {
		for _, cores := range append([]int{-1, 0, 1, 2, 5, mostCores - 1, mostCores, mostCores + 1}, ends...) {
			for _, objs := range append([]int{-1, 0, 1, 2*domains - 1, 2 * domains, 2*domains + 1, 2*domains + 2, mostObjs - 1, mostObjs, mostObjs + 1}, ends...) {
				for _, space := range []int{-1, 0, 1, 2, 3, 1024, 1025, mostMemory - 1, mostMemory, mostMemory + 1, 2 * mostMemory, 4 * mostMemory, 8 * mostMemory, -1024, math.MaxInt, math.MinInt, 1 << 32, 1 << 62} {
					newOf(t, cores, objs, space, domains)
				}
			}
		}
	}
}

func newOf(t *testing.T, cores, objs, space, domains int) {
	t.Helper()
	size := space >= 1 && space <= mostMemory && space&(space-1) == 0
	may := cores >= 1 && cores <= mostCores && objs <= mostObjs && domains >= 1 && domains <= mostDomains && objs > 2*domains && size
	s, e := New(cores, objs, space, domains)
	switch {
	case !may && (e != api.ErrArg || !like(s, api.State{})):
		t.Fatal(cores, objs, space, domains, s, e)
	case may && (e != api.OK || !like(s, begun(cores, objs, space, domains).state()) || holds(s) != ""):
		t.Fatal(cores, objs, space, domains, s, e)
	}
}

// TestNewIsNew: two states of New share nothing that calls change.
func TestNewIsNew(t *testing.T) {
	a, _ := New(2, 9, 1024, 2)
	b, _ := New(2, 9, 1024, 2)
	was := keep(b).was
	wholeState(a).Nodes[0][0] = api.Cap{}
	a.Arena.Things[0].Refs, a.Tree[0].Depth, a.Arena.Free[0][0], a.Roots[0], a.Sweeps[0].On = 9, 9, 9, 9, true
	if !like(b, was) {
		t.Fatal(b)
	}
}

// TestRoot, TestWaits, TestSame: P17.1.
func TestRoot(t *testing.T) {
	s, _ := New(5, 9, 1024, 3)
	for core, obj := range []int{0, 1, 2, 0, 1} {
		if c := Root(s, core); c != (api.Cap{Type: api.TyNode, Rights: 15, Obj: obj}) {
			t.Error(core, c)
		}
	}
	for _, core := range append([]int{-1, 5, 6, 64}, ends...) {
		if c := Root(s, core); c != (api.Cap{}) {
			t.Error(core, c)
		}
	}
	if c := Root(api.State{}, 0); c != (api.Cap{}) {
		t.Error(c)
	}
}

func TestWaits(t *testing.T) {
	x := set(t, 4, 9, 1024, 1)
	waits := func(cores ...int) {
		t.Helper()
		for _, core := range append([]int{-1, 0, 1, 2, 3, 4, 5}, ends...) {
			if Waits(x.s, core) != slices.Contains(cores, core) {
				t.Fatal(core, x.s.Ports)
			}
		}
	}
	waits()
	x.does(1, recv(to(1), 0))
	waits(1)
	x.ok(0, retype(to(0), to(2), api.TyNotice, 0))
	x.does(3, wait(to(2)))
	waits(1, 3)
	x.does(2, recv(to(1), 0))
	waits(1, 2, 3)
	x.does(0, send(to(1), 5, 0), append(code(0, api.OK), one(1, api.Reply{Value: 5})...)...)
	waits(2, 3)
	x.does(0, signal(to(2)), append(code(0, api.OK), one(3, api.Reply{Value: bare})...)...)
	waits(2)
	if Waits(api.State{}, 0) {
		t.Error("nobody")
	}
}

// full is a state of which no part is empty.
func full(t *testing.T) api.State {
	x := set(t, 3, 12, 1024, 1)
	x.ok(0, retype(to(0), to(2), api.TyFrame, 0), retype(to(0), to(3), api.TyNotice, 0), erase(to(2)), mint(to(1), to(2), 7, 5))
	x.does(1, recv(to(2), to(7)))
	x.begins(2, revoke(to(1)))
	x.turns(2)
	return x.s
}

// changes are all ways to have another state by one thing that is not the same.
func changes() []func(*api.State) {
	return []func(*api.State){
		func(s *api.State) { s.Arena.Things[3].Type++ }, func(s *api.State) { s.Arena.Things[3].Gen++ }, func(s *api.State) { s.Arena.Things[0].Refs++ },
		func(s *api.State) { s.Arena.Things[1].Start++ }, func(s *api.State) { s.Arena.Things[1].Size++ }, func(s *api.State) { s.Arena.Things[1].Water++ },
		func(s *api.State) { s.Arena.Things[11].From++ }, func(s *api.State) { s.Arena.Things[11].Value++ },
		func(s *api.State) { s.Arena.Things = s.Arena.Things[:11] }, func(s *api.State) { s.Arena.Free[0][0]++ },
		func(s *api.State) { s.Arena.Free[2] = s.Arena.Free[2][1:] }, func(s *api.State) { s.Arena.Free = s.Arena.Free[:2] },
		func(s *api.State) { s.Nodes[0][7].Type++ }, func(s *api.State) { s.Nodes[0][0].Rights-- }, func(s *api.State) { s.Nodes[0][2].Badge++ },
		func(s *api.State) { s.Nodes[0][3].Obj++ }, func(s *api.State) { s.Nodes[0][3].Gen++ }, func(s *api.State) { s.Nodes[0] = s.Nodes[0][:7] },
		func(s *api.State) { s.Nodes[11] = make([]api.Cap, 8) }, func(s *api.State) { s.Nodes = s.Nodes[:11] },
		func(s *api.State) { s.Tree[0].Key.Obj++ }, func(s *api.State) { s.Tree[0].Key.Slot++ }, func(s *api.State) { s.Tree[1].Depth++ },
		func(s *api.State) { s.Tree[0].Mark = true }, func(s *api.State) { s.Tree = s.Tree[:2] },
		func(s *api.State) { s.Ports[2].Kind = 1 }, func(s *api.State) { s.Ports[2].Word++ }, func(s *api.State) { s.Ports[2].Queue = nil },
		func(s *api.State) { s.Ports[2].Queue[0].Core++ }, func(s *api.State) { s.Ports[2].Queue[0].Gen++ }, func(s *api.State) { s.Ports[2].Queue[0].Slot.Slot-- },
		func(s *api.State) { s.Ports[2].Queue[0].Grant = true }, func(s *api.State) { s.Ports = s.Ports[:11] },
		func(s *api.State) { s.Limbo[0][0]++ }, func(s *api.State) { s.Limbo[0] = nil }, func(s *api.State) { s.Limbo[1] = []int{3} }, func(s *api.State) { s.Limbo = s.Limbo[:2] },
		func(s *api.State) { s.Roots[2]++ }, func(s *api.State) { s.Roots = s.Roots[:2] },
		func(s *api.State) { s.Sweeps[2].On = false }, func(s *api.State) { s.Sweeps[2].Lost = true }, func(s *api.State) { s.Sweeps[2].Key.Slot++ }, func(s *api.State) { s.Sweeps = s.Sweeps[:2] },
	}
}

func TestSame(t *testing.T) {
	s := full(t)
	if again := roomyState(s); !Same(s, again) || !Same(again, s) || !Same(api.State{}, api.State{}) || Same(s, api.State{}) || Same(api.State{}, s) {
		t.Fatal(s)
	}
	for i, change := range changes() {
		n := roomyState(s)
		change(&n)
		if Same(s, n) || Same(n, s) || !Same(n, roomyState(n)) {
			t.Error(i, n)
		}
	}
	n := roomyState(s)
	n.Nodes[5], n.Limbo[1], n.Ports[0].Queue, n.Arena.Free[1] = []api.Cap{}, []int{}, []api.Waiter{}, nil
	m := roomyState(s)
	m.Nodes[5], m.Limbo[1], m.Ports[0].Queue, m.Arena.Free[1] = nil, nil, nil, []int{}
	if !Same(n, m) || !Same(m, n) {
		t.Error(n, m)
	}
	none := api.State{Nodes: [][]api.Cap{}, Tree: []api.Branch{}, Ports: []api.Port{}, Limbo: [][]int{}, Roots: []int{}, Sweeps: []api.Sweep{}}
	if !Same(none, api.State{}) || !Same(api.State{}, none) {
		t.Error(none)
	}
}

// TestSilent: P17.2, P17.7: who is not there, who waits, whose Sweep is On is answered nothing.
func TestSilent(t *testing.T) {
	x := set(t, 4, 9, 1024, 1)
	x.does(1, recv(to(1), 0))
	x.begins(2, revoke(to(0)))
	was := x.s
	for _, core := range append([]int{-1, 1, 2, 4, 5, 64}, ends...) {
		for _, c := range []api.Call{look(to(0)), mint(to(0), to(2), 15, 0), revoke(to(0)), send(to(1), 1, 0), {}, {Kind: 99}} {
			x.does(core, c)
			x.begins(core, c)
			x.is(was)
		}
	}
	for _, core := range append([]int{-1, 0, 1, 3, 4, 5}, ends...) {
		x.turns(core)
		s, p, ok := Free(x.s, core)
		if !like(s, was) || p != 0 || ok {
			t.Fatal(core, p, ok)
		}
		x.is(was)
	}
	x.ok(0, look(to(2)))
	x.ok(3, look(to(2)))
	for _, core := range []int{-1, 0, 1} { // New's state beside an error has no cores
		s, done := Do(api.State{}, core, look(to(0)))
		n, more := Begin(api.State{}, core, revoke(to(0)))
		m, none := Turn(api.State{}, core)
		f, p, ok := Free(api.State{}, core)
		if len(done)+len(more)+len(none)+p > 0 || ok || !Same(s, n) || !Same(m, f) || !Same(s, api.State{}) || Touch(api.State{}, core, look(to(0))) != nil {
			t.Fatal(core)
		}
	}
}

// TestErrCall: P17.2, P17.7: calls that call.Check refuses, and, of Begin, those that revoke nothing.
func TestErrCall(t *testing.T) {
	x := set(t, 1, 9, 1024, 1)
	bad := []api.Call{{}, {Kind: -1, A: to(0)}, {Kind: 13, A: to(0)}, {Kind: math.MaxInt, A: to(0)}, {Kind: math.MinInt, A: to(0)}, read(0), look(5), look(math.MaxUint64), look(to(0) + 1<<40),
		{Kind: api.CaLook, A: to(0), B: to(1)}, {Kind: api.CaMint, A: to(0)}, mint(to(0), to(2), 16, 0), mint(to(0), to(2), -1, 0), mint(to(0), to(2), 15, 65536), mint(to(0), to(2), 15, -1),
		mint(to(0), to(2), math.MinInt, 0), mint(to(0), to(2), 15, math.MaxInt), move(to(0), 0), {Kind: api.CaMove, A: to(0), B: to(2), Value: 1}, retype(to(0), to(2), 0, 0), retype(to(0), to(2), 6, 0),
		retype(to(0), to(2), api.TyUntyped, -1), retype(to(0), to(2), api.TyUntyped, 1<<20+1), retype(to(0), to(2), math.MaxInt, math.MinInt), send(to(1), 1, 6), recv(to(1), 7),
		{Kind: api.CaRevoke, A: to(0), B: to(1)}, {Kind: api.CaRevoke}, {Kind: api.CaDelete, A: to(0), Size: 1}, {Kind: api.CaWait, A: to(0), Rights: 1}}
	for _, c := range bad {
		x.refused(0, c, api.ErrCall)
		was := x.s
		x.begins(0, c, code(0, api.ErrCall)...)
		x.is(was)
		if keys := Touch(x.s, 0, c); len(keys) != 0 {
			t.Error(c, keys)
		}
	}
	for _, c := range []api.Call{mint(to(0), to(2), 15, 0), move(to(0), to(2)), erase(to(0)), retype(to(0), to(2), 3, 0), read(to(0)), write(to(0), 1), send(to(1), 1, 0), recv(to(1), 0), signal(to(0)), wait(to(0)), look(to(0)), erase(to(0, 0))} {
		was := x.s
		x.begins(0, c, code(0, api.ErrCall)...)
		x.is(was)
	}
}

// TestAddresses: P17.2: the place of each address that a call has, from the caller's own node on.
func TestAddresses(t *testing.T) {
	x := set(t, 2, 12, 1024, 2)
	guarded, _ := addr.Put(api.Step{Guard: 1, Index: 0})
	deep := []uint64{guarded, to(0, 0), to(1, 0), to(2, 0), to(7, 7, 7, 7)}
	for _, w := range deep {
		for _, c := range []api.Call{mint(w, to(2), 15, 0), mint(to(0), w, 15, 0), mint(to(7), w, 15, 0), move(w, to(2)), move(to(0), w), move(to(7), w), erase(w), revoke(w), retype(w, to(2), 3, 0), retype(to(0), w, 3, 0), retype(to(7), w, 3, 0),
			read(w), write(w, 1), send(w, 1, 0), send(to(1), 1, w), send(to(7), 1, w), recv(w, 0), recv(to(1), w), recv(to(7), w), signal(w), wait(w), look(w)} {
			x.refused(0, c, api.ErrAddr)
		}
		was := x.s
		x.begins(0, revoke(w), code(0, api.ErrAddr)...)
		x.is(was)
	}
	x.ok(0, retype(to(0), to(2), api.TyNode, 0), retype(to(0), to(2, 7), api.TyFrame, 0), write(to(2, 7), 11))
	x.does(0, read(to(2, 7)), one(0, api.Reply{Value: 11})...)
	x.refused(1, read(to(2, 7)), api.ErrAddr)                                    // the other domain's slot 2 has nothing
	x.ok(0, mint(to(2), to(3), api.Read, 0), mint(to(2), to(4), 14, 0))          // both to that node, one of them without Read
	x.does(0, look(to(3, 7)), one(0, api.Reply{Value: word(t, x.cap(6, 7))})...) // the same slot
	x.refused(0, look(to(4, 7)), api.ErrAddr)
	x.ok(0, move(to(2), to(2, 0))) // the node lies in itself
	x.does(0, read(to(3, 0, 0, 7)), one(0, api.Reply{Value: 11})...)
	x.refused(0, read(to(2, 7)), api.ErrAddr)
}

// word is what CaLook tells of c.
func word(t *testing.T, c api.Cap) int64 {
	t.Helper()
	w, e := cap.Word(c)
	if e != api.OK {
		t.Fatal(c, e)
	}
	return int64(w)
}

// many is a kernel of one domain with one of each: node 3 in slot 2, with more in its slots; frame 6 in 3, notice 9 in 4, untyped 12 in 5. Core 2 revokes what is in 5: that is busy, and what is at 2, 1 marked.
func many(t *testing.T) *scene {
	t.Helper()
	x := set(t, 3, 16, 1024, 1)
	x.ok(0, retype(to(0), to(2), api.TyNode, 0), retype(to(0), to(3), api.TyFrame, 0), retype(to(0), to(4), api.TyNotice, 0), retype(to(0), to(5), api.TyUntyped, 256),
		mint(to(3), to(2, 0), api.Read, 0), mint(to(5), to(2, 1), 13, 0), mint(to(1), to(2, 2), 0, 0), mint(to(1), to(2, 3), api.Write, 7), mint(to(4), to(2, 4), 0, 0),
		mint(to(2), to(2, 5), 14, 0), mint(to(3), to(2, 6), api.Write, 0))
	x.begins(2, revoke(to(5)))
	x.turns(2)
	if !x.s.Tree[slices.IndexFunc(x.s.Tree, func(b api.Branch) bool { return b.Key == key(3, 1) })].Mark {
		t.Fatal(x.s.Tree)
	}
	return x
}

// TestFirstErrors: P17.2: each error of each kind, and, where several apply, the first one.
func TestFirstErrors(t *testing.T) {
	x := many(t)
	bad, none := to(0, 0), to(7)
	for i, try := range []struct {
		c api.Call
		e api.Errno
	}{
		{mint(bad, bad, 15, 9), api.ErrAddr}, {mint(bad, to(3), 15, 0), api.ErrAddr}, {mint(none, bad, 15, 0), api.ErrAddr}, {mint(to(5), bad, 15, 0), api.ErrAddr},
		{mint(none, to(3), 15, 9), api.ErrNone}, {mint(none, none, 15, 0), api.ErrNone}, {mint(to(5), to(3), 15, 9), api.ErrBusy}, {mint(to(2, 1), to(3), 15, 9), api.ErrBusy},
		{mint(to(5), none, 15, 9), api.ErrBusy}, {mint(to(2, 1), none, 0, 0), api.ErrBusy}, {mint(to(2, 0), to(3), 15, 9), api.ErrThere}, {mint(to(3), to(3), 15, 0), api.ErrThere},
		{mint(to(2, 0), none, 3, 9), api.ErrRights}, {mint(to(2, 0), none, 2, 0), api.ErrRights}, {mint(to(2, 2), none, 1, 5), api.ErrRights},
		{mint(to(2, 0), none, 1, 9), api.ErrArg}, {mint(to(2, 3), none, 2, 7), api.ErrArg}, {mint(to(2, 3), none, 0, 1), api.ErrArg}, {mint(to(2), none, 15, 1), api.ErrArg}, {mint(to(0), none, 15, 65535), api.ErrArg},
		{move(bad, to(3)), api.ErrAddr}, {move(none, bad), api.ErrAddr}, {move(to(5), bad), api.ErrAddr}, {move(none, to(3)), api.ErrNone}, {move(none, none), api.ErrNone},
		{move(to(5), to(3)), api.ErrBusy}, {move(to(2, 1), none), api.ErrBusy}, {move(to(2, 1), to(2, 1)), api.ErrBusy}, {move(to(4), to(3)), api.ErrThere}, {move(to(4), to(4)), api.ErrThere},
		{erase(bad), api.ErrAddr}, {erase(none), api.ErrNone}, {erase(to(5)), api.ErrBusy}, {erase(to(2, 1)), api.ErrBusy}, {erase(to(3)), api.ErrKids}, {erase(to(0)), api.ErrKids},
		{revoke(bad), api.ErrAddr}, {revoke(none), api.ErrNone}, {revoke(to(5)), api.ErrBusy}, {revoke(to(2, 1)), api.ErrBusy},
		{retype(bad, to(3), 1, 3), api.ErrAddr}, {retype(none, bad, 1, 3), api.ErrAddr}, {retype(to(3), bad, 1, 3), api.ErrAddr}, {retype(none, to(3), 1, 3), api.ErrNone},
		{retype(to(2, 2), to(3), 1, 3), api.ErrType}, {retype(to(3), none, 1, 3), api.ErrType}, {retype(to(2), none, 3, 0), api.ErrType}, {retype(to(2, 1), to(3), 1, 3), api.ErrRights}, {retype(to(2, 1), none, 3, 0), api.ErrRights},
		{retype(to(5), to(3), 1, 3), api.ErrBusy}, {retype(to(5), none, 3, 0), api.ErrBusy}, {retype(to(0), to(3), 1, 3), api.ErrThere}, {retype(to(0), to(0), 3, 0), api.ErrThere},
		{retype(to(0), none, 1, 3), api.ErrArg}, {retype(to(0), none, 1, 0), api.ErrArg}, {retype(to(0), none, 1, 1023), api.ErrArg}, {retype(to(0), none, 1, 1024), api.ErrSpace}, {retype(to(0), none, 1, 1<<20), api.ErrSpace},
		{read(bad), api.ErrAddr}, {read(none), api.ErrNone}, {read(to(2, 2)), api.ErrType}, {read(to(0)), api.ErrType}, {read(to(5)), api.ErrType}, {read(to(2, 6)), api.ErrRights},
		{write(bad, 1), api.ErrAddr}, {write(none, 1), api.ErrNone}, {write(to(2, 2), 1), api.ErrType}, {write(to(2), 1), api.ErrType}, {write(to(2, 0), 1), api.ErrRights},
		{send(bad, 1, to(3)), api.ErrAddr}, {send(none, 1, bad), api.ErrAddr}, {send(none, 1, to(3)), api.ErrNone}, {send(none, 1, 0), api.ErrNone}, {send(to(2, 4), 1, 0), api.ErrType}, {send(to(3), 1, to(3)), api.ErrType},
		{send(to(2, 2), 1, 0), api.ErrRights}, {send(to(2, 2), 1, to(3)), api.ErrRights}, {send(to(2, 3), 1, to(3)), api.ErrRights}, {send(to(2, 3), 1, none), api.ErrRights},
		{recv(bad, to(7)), api.ErrAddr}, {recv(none, bad), api.ErrAddr}, {recv(none, to(7)), api.ErrNone}, {recv(none, 0), api.ErrNone}, {recv(to(2, 4), 0), api.ErrType}, {recv(to(4), to(7)), api.ErrType}, {recv(to(2, 3), 0), api.ErrRights}, {recv(to(2, 2), to(7)), api.ErrRights},
		{signal(bad), api.ErrAddr}, {signal(none), api.ErrNone}, {signal(to(2, 2)), api.ErrType}, {signal(to(1)), api.ErrType}, {signal(to(2, 4)), api.ErrRights},
		{wait(bad), api.ErrAddr}, {wait(none), api.ErrNone}, {wait(to(2, 2)), api.ErrType}, {wait(to(3)), api.ErrType}, {wait(to(2, 4)), api.ErrRights},
		{look(bad), api.ErrAddr},
	} {
		t.Log(i, try)
		x.refused(0, try.c, try.e)
		x.refused(1, try.c, try.e)
	}
	was := x.s
	for c, e := range map[api.Call]api.Errno{revoke(bad): api.ErrAddr, revoke(none): api.ErrNone, revoke(to(5)): api.ErrBusy, revoke(to(2, 1)): api.ErrBusy} {
		x.begins(0, c, code(0, e)...)
		x.is(was)
	}
}

// TestLastErrors: P17.2: no memory, no place, too much in limbo, too many branches, and which of these is first.
func TestLastErrors(t *testing.T) {
	x := set(t, 2, 5, 64, 1) // the places 3 for core 1, 4 for core 0
	x.ok(0, retype(to(0), to(2), api.TyFrame, 0))
	x.refused(0, retype(to(0), to(3), api.TyNode, 0), api.ErrSpace) // and no place either
	x.refused(0, retype(to(0), to(3), api.TyUntyped, 64), api.ErrSpace)
	x.refused(0, retype(to(0), to(3), api.TyUntyped, 3), api.ErrArg)
	x.refused(0, retype(to(0), to(3), api.TyFrame, 0), api.ErrFull)
	x.ok(1, retype(to(0), to(3), api.TyFrame, 0))
	x.refused(1, retype(to(0), to(4), api.TyFrame, 0), api.ErrFull)

	y := crowded(t, mostTree)
	y.refused(0, mint(to(3), to(2), 15, 0), api.ErrThere)
	y.refused(0, mint(to(4), to(5), 15, 0), api.ErrRights)
	y.refused(0, mint(to(3), to(5), 15, 9), api.ErrArg)
	y.refused(0, mint(to(3), to(5), 15, 0), api.ErrMany)
	y.refused(0, retype(to(0), to(5), api.TyUntyped, 3), api.ErrArg)
	y.refused(0, retype(to(0), to(5), api.TyUntyped, 1<<18), api.ErrSpace)
	y.refused(0, retype(to(0), to(5), api.TyFrame, 0), api.ErrMany)
	y.refused(1, retype(to(0), to(5), api.TyFrame, 0), api.ErrFull)
	y.ok(0, move(to(3), to(5)), move(to(5), to(3)), erase(to(4)), mint(to(3), to(5), 15, 0)) // one less, one more
	y.refused(0, mint(to(3), to(6), 15, 0), api.ErrMany)
	y = crowded(t, mostTree-1)
	y.ok(0, retype(to(0), to(5), api.TyFrame, 0))
	y.refused(0, retype(to(0), to(6), api.TyFrame, 0), api.ErrMany)
}

// crowded is a state made by hand: with as many branches, of slots of objects that are not there. (Calls alone have no more than 504: there is no slot for more.)
func crowded(t *testing.T, n int) *scene {
	t.Helper()
	x := set(t, 2, 7, 1024, 1) // the places 4, 6 for core 0, 3, 5 for core 1
	x.ok(1, retype(to(0), to(2), api.TyFrame, 0), retype(to(0), to(3), api.TyFrame, 0))
	x.ok(0, mint(to(3), to(4), 0, 0))
	x.wild = true
	for i := 0; len(x.s.Tree) < n; i++ {
		x.s.Tree = append(x.s.Tree, twig(100+i/8, i%8, 0))
	}
	return x
}

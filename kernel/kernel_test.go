package kernel

import (
	"math"
	"slices"
	"testing"

	"garrison/addr"
	"garrison/api"
	"garrison/epoch"
	"garrison/ghost"
	"garrison/hist"
	"garrison/model"
)

// ends are numbers at the ends of int, and such as are small again if bits of them are lost.
var ends = []int{math.MinInt, math.MinInt + 1, math.MaxInt, math.MaxInt - 1, 1 << 31, -1 << 31, 1 << 32, 1<<32 + 1, -1 << 32, 1<<32 - 1, 1 << 61, 1 << 62, -1 << 62, 1<<62 + 1}

// to is an address of these slots, with guards 0.
func to(l ...int) uint64 {
	var steps []api.Step
	for _, i := range l {
		steps = append(steps, api.Step{Index: i})
	}
	w, _ := addr.Put(steps...)
	return w
}

// The calls, in short forms.

func mint(a, b uint64, rights, badge int) api.Call {
	return api.Call{Kind: api.CaMint, A: a, B: b, Rights: rights, Badge: badge}
}

func move(a, b uint64) api.Call { return api.Call{Kind: api.CaMove, A: a, B: b} }

func erase(a uint64) api.Call { return api.Call{Kind: api.CaDelete, A: a} }

func revoke(a uint64) api.Call { return api.Call{Kind: api.CaRevoke, A: a} }

func retype(a, b uint64, kind, size int) api.Call {
	return api.Call{Kind: api.CaRetype, A: a, B: b, Type: kind, Size: size}
}

func read(a uint64) api.Call { return api.Call{Kind: api.CaRead, A: a} }

func write(a uint64, v int64) api.Call { return api.Call{Kind: api.CaWrite, A: a, Value: v} }

func send(a uint64, v int64, b uint64) api.Call {
	return api.Call{Kind: api.CaSend, A: a, B: b, Value: v}
}

func recv(a, b uint64) api.Call { return api.Call{Kind: api.CaRecv, A: a, B: b} }

func signal(a uint64) api.Call { return api.Call{Kind: api.CaSignal, A: a} }

func wait(a uint64) api.Call { return api.Call{Kind: api.CaWait, A: a} }

func look(a uint64) api.Call { return api.Call{Kind: api.CaLook, A: a} }

// scene is a kernel while a test goes on, held against its second telling, and against what follows, behind each step.
type scene struct {
	t *testing.T
	k *Kernel
	w *told

	s     api.State   // what model makes of the events so far
	seen  int         // how many these are
	died  map[int]int // when what waits in limbo has died, by places
	ghost api.Ghost   // who was derived from whom, from what befell slots
}

func set(t *testing.T, cores, objs, space, domains int) *scene {
	t.Helper()
	k, e := New(cores, objs, space, domains)
	if e != api.OK || k == nil {
		t.Fatal("New", cores, objs, space, domains, e)
	}
	x := &scene{t: t, k: k, w: tell(cores, objs, space, domains), died: map[int]int{}}
	x.s, _ = model.New(cores, objs, space, domains)
	for _, b := range x.s.Tree {
		x.ghost, _ = ghost.Add(x.ghost, api.Birth{Kind: api.BiRoot, Key: b.Key})
	}
	x.same()
	return x
}

func (x *scene) cores() int { return len(x.w.cores) }

// same asks whether the kernel is as it is told.
func (x *scene) same() {
	x.t.Helper()
	if text := x.w.differs(x.k); text != "" {
		x.t.Fatalf("at %d, in %s:\n%+v\nis told as\n%+v", x.w.now, text, *x.k, *x.w)
	}
}

func (x *scene) load(core int, l ...api.Call) {
	x.t.Helper()
	if e := x.k.Load(core, l...); e != api.OK {
		x.t.Fatal("Load", core, l, e)
	}
	x.w.cores[core].left = append(x.w.cores[core].left, l...)
	x.same()
}

// step has the core do one; whether it did.
func (x *scene) step(core int) bool {
	x.t.Helper()
	got, want := x.k.Step(core), x.w.step(core)
	if got != want {
		x.t.Fatalf("at %d, core %d: Step is %v, not %v: %+v", x.w.now, core, got, want, *x.k)
	}
	x.same()
	if got {
		x.alone()
		x.follow()
	}
	return got
}

// steps has the core do n of them, each of which does something.
func (x *scene) steps(core, n int) {
	x.t.Helper()
	for i := range n {
		if !x.step(core) {
			x.t.Fatalf("core %d has nothing to do at its step %d of %d", core, i, n)
		}
	}
}

// run has the cores do a step each, in that order, whether they have something to do or not.
func (x *scene) run(picks []int) {
	x.t.Helper()
	for _, core := range picks {
		x.step(core)
	}
}

// until has the core do steps until it is in that phase, a tick at least.
func (x *scene) until(core, phase int) {
	x.t.Helper()
	for range 500 {
		if !x.step(core) {
			break
		}
		if x.k.Phase(core) == phase {
			return
		}
	}
	x.t.Fatalf("core %d is in the phase %d, not %d: %+v", core, x.k.Phase(core), phase, *x.k)
}

// act has the core do steps until it acts.
func (x *scene) act(core int) api.Event {
	x.t.Helper()
	n := len(x.k.hist.Events)
	for range 500 {
		if !x.step(core) {
			break
		}
		if len(x.k.hist.Events) > n {
			return x.k.hist.Events[n]
		}
	}
	x.t.Fatalf("core %d does not act: %+v", core, *x.k)
	return api.Event{}
}

// rounds has all cores do steps until none has anything to do: P19.10, P19.7.
func (x *scene) rounds() {
	x.t.Helper()
	left := 10000
	for core := range x.cores() {
		left += 4000 * (x.k.Left(core) + 1)
	}
	for did := true; did; left-- {
		did = false
		for core := range x.cores() {
			did = x.step(core) || did
		}
		if left == 0 {
			x.t.Fatalf("it does not end: %+v", *x.k)
		}
	}
	for core := range x.cores() {
		waits := model.Waits(x.k.state, core)
		if p := x.k.Phase(core); p != api.CoIdle && (p != api.CoWait || !waits) || p == api.CoIdle && (x.k.Left(core) > 0 || waits) {
			x.t.Fatalf("core %d is in the phase %d, and has %d calls left: %+v", core, p, x.k.Left(core), *x.k)
		}
	}
	for _, v := range x.k.Locks() {
		if v != 0 {
			x.t.Fatalf("%d holds a lock in the end: %+v", v, *x.k)
		}
	}
	x.once()
}

// does has the core call alone, until it has nothing to do, and be answered that.
func (x *scene) does(core int, c api.Call, want api.Reply) {
	x.t.Helper()
	x.load(core, c)
	for x.step(core) {
	}
	if s := x.last(core); s.End == 0 || s.Call != c || s.Reply != want {
		x.t.Fatalf("%+v is answered %+v, not %+v", c, s, want)
	}
}

// ok has the core's calls, one behind the other, be answered OK, and no more.
func (x *scene) ok(core int, l ...api.Call) {
	x.t.Helper()
	for _, c := range l {
		x.does(core, c, api.Reply{})
	}
}

// last is the core's last span.
func (x *scene) last(core int) api.Span {
	x.t.Helper()
	for i := len(x.k.hist.Spans) - 1; i >= 0; i-- {
		if x.k.hist.Spans[i].Core == core {
			return x.k.hist.Spans[i]
		}
	}
	x.t.Fatal("it has not called", core)
	return api.Span{}
}

// codes are the codes of the core's replies, in order; -1: none yet.
func (x *scene) codes(core int) []api.Errno {
	var l []api.Errno
	for _, s := range x.k.hist.Spans {
		if s.Core == core && s.End != 0 {
			l = append(l, s.Reply.Code)
		} else if s.Core == core {
			l = append(l, -1)
		}
	}
	return l
}

// is asks for the core's phase, and which cells it holds.
func (x *scene) is(core, phase int, held ...int) {
	x.t.Helper()
	if p, h := x.k.Phase(core), x.k.Held(core); p != phase || !slices.Equal(h, held) {
		x.t.Fatalf("at %d core %d is in the phase %d, and holds %v, not %d and %v", x.k.Now(), core, p, h, phase, held)
	}
}

// alone is P19.8.
func (x *scene) alone() {
	x.t.Helper()
	holders := map[int]int64{}
	for core := range x.cores() {
		held := x.k.Held(core)
		for i, cell := range held {
			if holders[cell] != 0 || i > 0 && cell <= held[i-1] {
				x.t.Fatalf("core %d holds %v, which %d has", core, held, holders[cell])
			}
			holders[cell] = int64(core + 1)
		}
	}
	for cell, v := range x.k.Locks() {
		if v != holders[cell] {
			x.t.Fatalf("the lock %d has %d; its holder is %d", cell, v, holders[cell])
		}
	}
}

// follow has the model do what the events say that came since: P19.7, P19.9.
func (x *scene) follow() {
	x.t.Helper()
	for ; x.seen < len(x.k.hist.Events); x.seen++ {
		e := x.k.hist.Events[x.seen]
		if e.Stamp != x.k.now {
			x.t.Fatalf("at %d there is an event %+v", x.k.now, e)
		}
		before := x.s
		var done []api.Done
		switch e.Kind {
		case api.EvDo:
			x.s, done = model.Do(before, e.Core, e.Call)
		case api.EvBegin:
			x.s, done = model.Begin(before, e.Core, e.Call)
		case api.EvTurn:
			x.s, done = model.Turn(before, e.Core)
		case api.EvFree:
			x.free(before, e)
		}
		if !slices.Equal(done, e.Replies) {
			x.t.Fatalf("%+v is answered otherwise by the model: %+v", e, done)
		}
		for core, l := range x.s.Limbo {
			for _, p := range l[min(len(l), len(before.Limbo[core])):] {
				x.died[p] = e.Stamp
			}
		}
		x.haunt(before, e)
	}
	if !model.Same(x.s, x.k.state) {
		x.t.Fatalf("the state is\n%+v\nnot\n%+v", x.k.state, x.s)
	}
}

// free is P19.9: whoever called when it died was answered by now.
func (x *scene) free(before api.State, e api.Event) {
	x.t.Helper()
	s, p, ok := model.Free(before, e.Core)
	if !ok || x.died[p] == 0 || e.Call != (api.Call{}) {
		x.t.Fatalf("nothing is free: %+v", e)
	}
	for _, one := range x.k.hist.Spans {
		if one.Start <= x.died[p] && (one.End == 0 || one.End >= x.died[p]) && (one.End == 0 || one.End >= e.Stamp) {
			x.t.Fatalf("%d died at %d, and is free at %d, with %+v", p, x.died[p], e.Stamp, one)
		}
	}
	delete(x.died, p)
	x.s = s
}

// place is where an address leads a core.
func place(s api.State, core int, word uint64) api.Key {
	steps, _ := addr.Parse(word)
	k, _, _ := addr.Find(s.Nodes, model.Root(s, core), steps)
	return k
}

// haunt tells the ghost what befell slots by an event, and asks it when a revocation is answered OK: nothing descends from its slot then.
func (x *scene) haunt(before api.State, e api.Event) {
	x.t.Helper()
	var b api.Birth
	for obj := range before.Nodes {
		for slot := range api.Slots {
			was, is := capAt(before, obj, slot), capAt(x.s, obj, slot)
			if k := (api.Key{Obj: obj, Slot: slot}); was == (api.Cap{}) && is != was {
				b = api.Birth{Kind: api.BiDerive, Key: k, From: from(before, e)}
			} else if is == (api.Cap{}) && is != was && b.Key == (api.Key{}) && e.Call.Kind != api.CaMove {
				b = api.Birth{Kind: api.BiDie, Key: k}
			}
		}
	}
	if e.Kind == api.EvFree || b.Kind == 0 {
		b.Kind = 0
	} else if e.Call.Kind == api.CaMove {
		b.Kind = api.BiMove
	}
	if b.Kind != 0 {
		g, err := ghost.Add(x.ghost, b)
		if err != api.OK {
			x.t.Fatalf("%+v: %+v: %d", e, b, err)
		}
		x.ghost = g
	}
	if len(x.ghost.Keys) != len(x.s.Tree) {
		x.t.Fatalf("%+v: %+v are not as many as %+v", e, x.ghost.Keys, x.s.Tree)
	}
	if e.Kind == api.EvTurn && len(e.Replies) > 0 && e.Replies[0] == (api.Done{Core: e.Core}) {
		top := before.Sweeps[e.Core].Key
		for _, k := range x.ghost.Keys {
			if ghost.Descends(x.ghost, k, top) {
				x.t.Fatalf("%+v: %v descends from %v", e, k, top)
			}
		}
	}
}

func capAt(s api.State, obj, slot int) api.Cap {
	if len(s.Nodes[obj]) == 0 {
		return api.Cap{}
	}
	return s.Nodes[obj][slot]
}

// from is the slot from which something was derived by an event.
func from(s api.State, e api.Event) api.Key {
	switch a := place(s, e.Core, e.Call.A); e.Call.Kind {
	case api.CaSend:
		return place(s, e.Core, e.Call.B)
	case api.CaRecv:
		return s.Ports[capAt(s, a.Obj, a.Slot).Obj].Queue[0].Slot
	default:
		return a
	}
}

// once is P19.7: each call that is over was answered by one event between, with its reply.
func (x *scene) once() {
	x.t.Helper()
	h := x.k.Hist()
	if !likeHist(h, x.k.hist) || !likeHist(h, x.w.h) || hist.Check(h) != api.OK {
		x.t.Fatalf("the history is not as it should be: %+v", h)
	}
	for _, s := range h.Spans {
		var l []api.Reply
		for _, e := range h.Events {
			for _, d := range e.Replies {
				if d.Core == s.Core && e.Stamp >= s.Start && (s.End == 0 || e.Stamp <= s.End) {
					l = append(l, d.Reply)
				}
			}
		}
		if s.End == 0 && len(l) > 1 || s.End != 0 && (len(l) != 1 || l[0] != s.Reply) {
			x.t.Fatalf("%+v is answered %+v", s, l)
		}
	}
	for _, e := range h.Events {
		in := func(s api.Span) bool {
			return s.Core == e.Core && s.Call == e.Call && s.Start < e.Stamp && (s.End == 0 || s.End > e.Stamp)
		}
		if e.Kind != api.EvFree && !slices.ContainsFunc(h.Spans, in) {
			x.t.Fatalf("%+v is in no call", e)
		}
	}
}

// TestNew: P19.1.
func TestNew(t *testing.T) {
	numbers := []int{-1, 0, 1, 2, 3, 4, 5, 8, 9, 15, 16, 17, 63, 64, 65, 1 << 18, 1<<18 + 1, 1 << 19}
	made := 0
	for _, cores := range append([]int{-1, 0, 1, 2, 64, 65}, ends...) {
		for _, objs := range append([]int{2, 3, 5, 9, 64, 65}, ends...) {
			for _, space := range append(numbers, ends...) {
				for _, domains := range []int{math.MinInt, -1, 0, 1, 4, 5, math.MaxInt} {
					k, e := New(cores, objs, space, domains)
					s, want := model.New(cores, objs, space, domains)
					if want != api.OK && (k != nil || e != api.ErrArg) || want == api.OK && (k == nil || e != api.OK) {
						t.Fatal(cores, objs, space, domains, k, e, want)
					}
					if e == api.OK {
						isNew(t, k, s, cores)
						made++
					}
				}
			}
		}
	}
	if made < 50 {
		t.Fatal("too few", made)
	}
}

func isNew(t *testing.T, k *Kernel, s api.State, cores int) {
	t.Helper()
	e, _ := epoch.New(cores)
	if k.Now() != 0 || !like(k.State(), s) || !likeEpochs(k.Epochs(), e) || !likeHist(k.Hist(), api.History{}) || !slices.Equal(k.Locks(), make([]int64, lockCount)) {
		t.Fatalf("%+v", *k)
	}
	for core := -1; core <= cores; core++ {
		if k.Phase(core) != api.CoIdle || k.Left(core) != 0 || len(k.Held(core)) != 0 || k.Step(core) {
			t.Fatal(core)
		}
	}
}

// TestLoad: P19.1: Load, its errors, and which of them comes first.
func TestLoad(t *testing.T) {
	many := make([]api.Call, mostCalls+1)
	for _, core := range append([]int{-1, 0, 1, 2}, ends...) {
		var none *Kernel
		if none.Load(core) != api.ErrNone || none.Load(core, many...) != api.ErrNone {
			t.Fatal("nil", core)
		}
		k, _ := New(2, 9, 1024, 1)
		want := api.OK
		if core != 0 && core != 1 {
			want = api.ErrArg
		}
		if e := k.Load(core); e != want || k.Left(core) != 0 {
			t.Fatal(core, e)
		}
		if want == api.OK {
			want = api.ErrMany
		}
		if e := k.Load(core, many...); e != want || k.Left(0) != 0 || k.Left(1) != 0 || k.Step(core) {
			t.Fatal(core, e)
		}
	}
}

// TestLoadMany: P19.1: as many as there may be that are not made yet, and no more.
func TestLoadMany(t *testing.T) {
	x := set(t, 2, 9, 1024, 1)
	for i := range mostCalls - 1 {
		if e := x.k.Load(0, look(uint64(i))); e != api.OK {
			t.Fatal(i, e)
		}
	}
	twice := []api.Call{look(to(0)), look(to(1))}
	for range 2 {
		if e := x.k.Load(0, twice...); e != api.ErrMany || x.k.Left(0) != mostCalls-1 {
			t.Fatal(e, x.k.Left(0))
		}
	}
	if x.k.Load(0, twice[0]) != api.OK || x.k.Load(0, twice[0]) != api.ErrMany || x.k.Load(0) != api.OK || x.k.Left(0) != mostCalls {
		t.Fatal(x.k.Left(0))
	}
	if x.k.Load(1, make([]api.Call, mostCalls)...) != api.OK || x.k.Load(1, twice...) != api.ErrMany || x.k.Left(1) != mostCalls {
		t.Fatal("another core has as many")
	}
	if !x.k.Step(0) || x.k.Left(0) != mostCalls-1 || x.k.Load(0, twice...) != api.ErrMany || x.k.Load(0, twice[1]) != api.OK || x.k.Load(0, twice[1]) != api.ErrMany {
		t.Fatal("one that is made is counted no more")
	}
	for x.k.Step(0) {
	}
	var made []api.Call
	for _, s := range x.k.Hist().Spans {
		made = append(made, s.Call)
	}
	if len(made) != mostCalls+1 || made[0] != look(0) || made[998] != look(998) || made[999] != twice[0] || made[1000] != twice[1] || x.k.Left(0) != 0 || x.k.Left(1) != mostCalls {
		t.Fatal(len(made), x.k.Left(0), x.k.Left(1))
	}
}

// TestLoadKeepsNothing: what is handed in may change behind the call, and is not changed by it, its room neither.
func TestLoadKeepsNothing(t *testing.T) {
	x := set(t, 1, 9, 1024, 1)
	l := []api.Call{look(to(0)), look(to(1)), look(to(2)), look(to(3)), look(to(4))}
	was := slices.Clone(l)
	if x.k.Load(0, l[:2]...) != api.OK || x.k.Load(0, l[2:3]...) != api.OK || !slices.Equal(l, was) {
		t.Fatal(l)
	}
	for i := range l {
		l[i] = erase(to(1))
	}
	if x.k.Load(0, was[3:4:4]...) != api.OK || was[4] != look(to(4)) {
		t.Fatal(was)
	}
	for x.k.Step(0) {
	}
	for i, s := range x.k.Hist().Spans {
		if s.Call != look(to(i)) || s.Reply.Code != api.OK {
			t.Fatal(i, s)
		}
	}
	if len(x.k.Hist().Spans) != 4 || l[4] != erase(to(1)) {
		t.Fatal(l)
	}
}

// TestNil: P19.1, P19.2, P19.6: a nil Kernel at each call.
func TestNil(t *testing.T) {
	var k *Kernel
	for _, core := range append([]int{-1, 0, 1, 63, 64}, ends...) {
		if k.Load(core) != api.ErrNone || k.Step(core) || k.Run(core, core) != 0 || len(k.Held(core)) != 0 || k.Phase(core) != 0 || k.Left(core) != 0 {
			t.Fatal(core)
		}
	}
	if k.Run() != 0 || k.Now() != 0 || len(k.Locks()) != 0 || !likeHist(k.Hist(), api.History{}) || !like(k.State(), api.State{}) || !likeEpochs(k.Epochs(), api.Epochs{}) {
		t.Fatal("nil")
	}
}

// TestNobody: P19.2, P19.6: cores that there are not, while others are at work.
func TestNobody(t *testing.T) {
	x := set(t, 3, 9, 1024, 1)
	x.load(0, look(to(0)))
	x.load(2, look(to(0)))
	x.steps(0, 4)
	x.steps(2, 3)
	for _, core := range append([]int{-1, -2, 3, 4, 63, 64}, ends...) {
		if x.step(core) || x.k.Run(core, core) != 0 || len(x.k.Held(core)) != 0 || x.k.Phase(core) != 0 || x.k.Left(core) != 0 {
			t.Fatal(core)
		}
		if core%3 == 0 && x.k.Load(core, look(to(0))) != api.ErrArg {
			t.Fatal(core)
		}
		x.same()
	}
	x.rounds()
}

// TestRun: P19.2: how many of the picks did something, in their order.
func TestRun(t *testing.T) {
	x := set(t, 2, 9, 1024, 1)
	x.load(0, look(0))
	picks := []int{1, 0, -1, 0, 2, 1, 0, math.MaxInt, 0, 0, 0, 1, 0}
	was := slices.Clone(picks)
	if n := x.k.Run(picks...); n != 5 || !slices.Equal(picks, was) || x.k.Now() != 5 || x.k.Run() != 0 || x.k.Run(0, 1, 0) != 0 || x.k.Now() != 5 {
		t.Fatal(n, x.k.Now())
	}
	one, other := set(t, 2, 9, 1024, 1).k, set(t, 2, 9, 1024, 1).k
	for _, k := range []*Kernel{one, other} {
		k.Load(0, mint(to(0), to(2), 15, 0), erase(to(2)))
		k.Load(1, mint(to(0), to(2), 15, 0), erase(to(2)))
	}
	picks = nil
	want := 0
	for i := range 200 {
		core := i * i % 7 % 3
		picks = append(picks, core)
		if one.Step(core) {
			want++
		}
	}
	if n := other.Run(picks...); n != want || n < 40 || n != other.Now() || !likeHist(one.Hist(), other.Hist()) || !like(one.State(), other.State()) || !slices.Equal(one.Locks(), other.Locks()) {
		t.Fatal(n, want)
	}
}

package grant

import (
	"fmt"
	"slices"
	"testing"

	"garrison/api"
	"garrison/arena"
	"garrison/hist"
	"garrison/kernel"
	"garrison/lin"
	"garrison/model"
	"garrison/script"
)

// TestNobodyGains: P2: what is gained at an event was in what the core that calls, or those who are answered, could come to.
func TestNobodyGains(t *testing.T) {
	seen := map[string]int{}
	for seed := range 80 {
		x := watched(t, seed+2000, seen)
		x.each = func(one stride) {
			if !one.confined() {
				t.Fatalf("%+v", one)
			}
			l := append(one.answered(), one.core)
			if others := x.without(l); len(toldGained(one.s, one.n)) > 0 && !Confined(one.s, one.n, others...) {
				seen["not to others"]++
			}
			if one.met() && len(toldGained(one.s, one.n)) > 0 && !Confined(one.s, one.n, one.core) {
				seen["not to one of two"]++
			}
		}
		x.run(2000)
		x.rounds()
	}
	enough(t, seen, 100, "not to others", "met")
	enough(t, seen, 20, "not to one of two")
}

// TestRightsDoNotGrow: P2, of things to which another domain was given some rights alone: whatever its cores call, among themselves, they come to no more.
func TestRightsDoNotGrow(t *testing.T) {
	seen := map[string]int{}
	for seed := range 80 {
		d := dice(seed*15485863 + 5)
		x := watchedOf(t, &d, 60, 2, seen)
		x.each = func(one stride) {
			if !one.confined() {
				t.Fatalf("%+v", one)
			}
		}
		x.k.Load(0, retype(0, api.TyNode, 7).call)
		var given []api.Hold
		for i, kind := range []int{api.TyFrame, api.TyNode, api.TyEndpoint, api.TyNotice} {
			rights := d.upTo(8)
			x.k.Load(0, retype(0, kind, 7, i).call, mint(0, by(7, i), by(7, 4+i), rights, 0).call, send(0, 7, 4+i).call)
			x.k.Load(1, recv(1, 2+i).call)
			x.rounds()
			c := toldAt(x.s, key(1, 2+i))
			if c.Type != kind || c.Rights != rights {
				t.Fatalf("%d is not given: %+v", kind, x.s.Nodes)
			}
			given = append(given, hold(c.Obj, c.Gen, rights))
		}
		for _, core := range d.picks(x.cores, 4000) {
			if core%2 == 0 {
				continue
			}
			x.calls(core)
			x.step(core)
			if l := Reach(x.s, core); len(l) > 8 {
				seen["more slots"]++
			}
		}
		x.apart(given)
	}
	enough(t, seen, 100, "more slots", "held")
}

// apart asks whether what cores of the other domain hold of these things is within what was given.
func (x *watch) apart(given []api.Hold) {
	x.t.Helper()
	for core := 1; core < x.cores; core += 2 {
		for _, h := range toldHolds(x.s, toldReach(x.s, core)) {
			of := slices.IndexFunc(given, func(one api.Hold) bool { return one.Obj == h.Obj && one.Gen == h.Gen })
			if of < 0 {
				continue
			}
			x.seen["held"]++
			if given[of].Rights|h.Rights != given[of].Rights {
				x.t.Fatalf("%d holds %+v of %+v", core, h, given[of])
			}
		}
	}
}

// without are all other cores.
func (x *watch) without(l []int) []int {
	var others []int
	for core := range x.cores {
		if !slices.Contains(l, core) {
			others = append(others, core)
		}
	}
	return others
}

// fits says what is not as P3 has it.
func fits(s api.State, seen map[string]int) string {
	for _, k := range full(s) {
		c := toldAt(s, k)
		if c.Obj < 0 || c.Obj >= len(s.Arena.Things) {
			return fmt.Sprint("no object of ", k)
		}
		if x := s.Arena.Things[c.Obj]; x.Type != c.Type || x.Gen != c.Gen || arena.State(s.Arena, c.Obj) != "live" {
			return fmt.Sprint("the object of ", k)
		}
	}
	times := func(lists [][]int, p int) int {
		n := 0
		for _, one := range slices.Concat(lists...) {
			if one == p {
				n++
			}
		}
		return n
	}
	for p, x := range s.Arena.Things {
		free, limbo := times(s.Arena.Free, p), times(s.Limbo, p)
		is := []bool{x.Type != 0 && free+limbo == 0, x.Type == 0 && free == 1 && limbo == 0, x.Type == 0 && free == 0 && limbo == 1, x.Gen == api.Retired && free == 0 && limbo <= 1}
		if !slices.Contains(is, true) {
			return fmt.Sprint("place ", p, x, free, limbo)
		}
		for i, name := range []string{"live", "free", "in limbo"} {
			if is[i] {
				seen[name]++
			}
		}
	}
	return ""
}

// TestEachNamesALiveOne: P3, at each moment.
func TestEachNamesALiveOne(t *testing.T) {
	seen := map[string]int{}
	for seed := range 80 {
		x := watched(t, seed+3000, seen)
		x.each = func(one stride) {
			if wrong := fits(one.n, seen); wrong != "" {
				t.Fatal(wrong)
			}
		}
		if wrong := fits(x.s, seen); wrong != "" {
			t.Fatal(wrong)
		}
		x.run(4000)
		x.rounds()
	}
	enough(t, seen, 100, "died beside a call", "live", "free", "in limbo")
}

// TestRetired: P3, of a place that was used as often as can be: by one core that makes a frame and has it die, again and again, beside another one that is in a call.
func TestRetired(t *testing.T) {
	k, _ := kernel.New(2, 4, 1024, 1)
	make, end := retype(0, api.TyFrame, 2).call, erase(0, 2).call
	states := map[string]int{}
	for round := 0; arena.State(k.State().Arena, 3) != "retired"; round++ {
		if round > 2*(api.MaxGen+2) {
			t.Fatal(k.State())
		}
		k.Load(round%2, make, end)
		k.Run(script.Rounds(2, 60)...)
		if wrong := fits(k.State(), states); wrong != "" {
			t.Fatal(wrong)
		}
	}
	k.Load(0, make)
	k.Load(1, make)
	k.Run(script.Rounds(2, 60)...)
	l := k.Hist().Spans
	if wrong := fits(k.State(), states); wrong != "" || l[len(l)-1].Reply.Code != api.ErrFull || l[len(l)-2].Reply.Code != api.ErrFull {
		t.Fatal(wrong, l[len(l)-2:])
	}
}

// TestAllAreAnswered: P4: filled up with rounds, all calls but those that wait for somebody are answered, and nothing happens any more.
func TestAllAreAnswered(t *testing.T) {
	seen := map[string]int{}
	for seed := range 200 {
		x := watched(t, seed+4000, seen)
		x.run(x.d.upTo(2500))
		x.rounds()
		now, h := x.k.Now(), x.k.Hist()
		if did := x.k.Run(script.Rounds(x.cores, 3)...); did != 0 || x.k.Now() != now || !hist.Same(x.k.Hist(), h) || !model.Same(x.k.State(), x.s) {
			t.Fatal("something happens", did)
		}
		waits := 0
		for core := range x.cores {
			switch at, open := hist.Pending(h, core); {
			case open && (!model.Waits(x.s, core) || x.k.Phase(core) != api.CoWait):
				t.Fatalf("not answered: %+v", h.Spans[at])
			case open:
				waits++
			case x.k.Left(core) > 0 || x.k.Phase(core) != api.CoIdle:
				t.Fatal("it stands still", core)
			}
		}
		if waits == 0 {
			seen["all answered"]++
			if n := len(slices.Concat(x.s.Limbo...)); n > 0 {
				t.Fatal("in limbo still", x.s.Limbo)
			}
		}
		seen["waits"] += waits
	}
	enough(t, seen, 20, "waits", "all answered", "met")
}

// TestWhoWaitsWhereItDies: P4, of those who wait at endpoints and notices that die: they are answered ErrGone.
func TestWhoWaitsWhereItDies(t *testing.T) {
	seen := map[string]int{}
	for seed := range 60 {
		d := dice(seed*7919 + 4)
		x := watchedOf(t, &d, 6+d.upTo(24), 1, seen)
		x.k.Load(0, retype(0, api.TyEndpoint, 2).call, retype(0, api.TyNotice, 3).call)
		x.rounds()
		for core := 1; core < x.cores; core++ {
			x.load(core, 1+d.upTo(4), deed{core, api.Call{Kind: api.CaRecv, A: to(2), B: to(core)}}, deed{core, api.Call{Kind: api.CaSend, A: to(2)}}, deed{core, api.Call{Kind: api.CaWait, A: to(3)}})
		}
		x.load(0, 1, deed{0, api.Call{Kind: api.CaSignal, A: to(3)}}, retype(0, api.TyFrame, 4))
		x.k.Load(0, mint(0, by(2), by(7), 7, 0).call, revoke(0, 0).call)
		x.loaded(d.upTo(600))
		if l := x.open(); len(l) > 0 {
			t.Fatalf("not answered: %v", l)
		}
	}
	enough(t, seen, 50, "gone")
}

// open are the cores that are in a call.
func (x *watch) open() []int {
	var l []int
	for core := range x.cores {
		if _, open := hist.Pending(x.k.Hist(), core); open {
			l = append(l, core)
		}
	}
	return l
}

// meets is who is to be met at an event: the first one who waits at the endpoint, in the other way; nobody, if it is no such call, or it is refused.
func meets(one stride) (api.Waiter, bool) {
	a, ok := place(one.s, one.core, one.call.A)
	c := toldAt(one.s, a)
	refused := slices.ContainsFunc(one.replies, func(d api.Done) bool { return d.Core == one.core && d.Reply.Code != api.OK })
	if !ok || refused || one.kind != api.EvDo || c.Type != api.TyEndpoint {
		return api.Waiter{}, false
	}
	p := one.s.Ports[c.Obj]
	if one.call.Kind == api.CaSend && p.Kind == 2 || one.call.Kind == api.CaRecv && p.Kind == 1 {
		return p.Queue[0], true
	}
	return api.Waiter{}, false
}

// TestWhoWaitsIsMet: P5: who waits at an endpoint is answered when one calls who meets it.
func TestWhoWaitsIsMet(t *testing.T) {
	seen := map[string]int{}
	for seed := range 80 {
		x := watched(t, seed+5000, seen)
		x.each = func(one stride) {
			w, ok := meets(one)
			if !ok {
				if one.met() && one.call.Kind != api.CaSignal {
					t.Fatalf("nobody is to be met: %+v", one)
				}
				return
			}
			if !slices.Equal(one.answered(), []int{one.core, w.Core}) || model.Waits(one.n, w.Core) || model.Waits(one.n, one.core) {
				t.Fatalf("%+v is not met: %+v", w, one)
			}
			value, got := w.Value, one.replies[0].Reply
			if one.call.Kind == api.CaSend {
				value, got = one.call.Value, one.replies[1].Reply
			}
			if got.Value != value || got.Code != api.OK {
				t.Fatalf("%+v is answered %+v", w, one.replies)
			}
			x.answers(one.replies)
		}
		x.run(4000)
		x.rounds()
	}
	enough(t, seen, 200, "met", "answered at once")
}

// answers has both who met go on, until they have left, if the dice say so: each has that reply then.
func (x *watch) answers(l []api.Done) {
	for _, d := range l {
		if x.d.upTo(2) == 0 {
			continue
		}
		at, _ := hist.Pending(x.k.Hist(), d.Core)
		for range 40 {
			if x.k.Phase(d.Core) != api.CoIdle {
				x.k.Step(d.Core)
			}
		}
		if is := x.k.Hist().Spans[at]; is.End == 0 || is.Reply != d.Reply {
			x.t.Fatalf("%+v, not %+v", is, d)
		}
		x.seen["answered at once"]++
	}
}

// TestAsIfOneBehindTheOther: P6.
func TestAsIfOneBehindTheOther(t *testing.T) {
	seen := map[string]int{}
	for seed := range 80 {
		x := watched(t, seed+6000, seen)
		for range 5 {
			x.run(500)
			x.linear()
		}
		x.rounds()
		x.linear()
	}
	enough(t, seen, 20, "turned", "moments beside calls")
}

// linear is P6 as things are now.
func (x *watch) linear() {
	x.t.Helper()
	h := x.k.Hist()
	if n, e := lin.Check(x.first, h); e != api.OK || !model.Same(n, x.k.State()) {
		x.t.Fatalf("%d: %+v", e, h)
	}
	l := lin.Order(h)
	if !lin.Respects(h, l) {
		x.t.Fatalf("%v of %+v", l, h)
	}
	for i, at := range l { // told once more: nobody who was over when others began is behind them
		for _, other := range l[:i] {
			if a, b := h.Spans[at], h.Spans[other]; a.End < b.Start || a.End == 0 || at == other {
				x.t.Fatalf("%+v is behind %+v", a, b)
			}
		}
	}
	over := 0
	for _, one := range h.Spans {
		if one.End > 0 {
			over++
		}
	}
	if over != len(l) {
		x.t.Fatal(over, len(l))
	}
	if !slices.IsSorted(l) {
		x.seen["turned"]++
	}
	if over < len(h.Spans) {
		x.seen["moments beside calls"]++
	}
}

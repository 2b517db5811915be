package grant

import (
	"fmt"
	"slices"
	"testing"

	"garrison/api"
	"garrison/model"
	"garrison/tree"
)

// stride is something that befell a state: by whom, with what replies.
type stride struct {
	s, n    api.State
	kind    int // of an event
	core    int
	call    api.Call
	replies []api.Done
}

// answered are the cores that are answered.
func (x stride) answered() []int {
	var l []int
	for _, d := range x.replies {
		l = append(l, d.Core)
	}
	return l
}

// met says whether somebody else has a part in it, but for those who are told that what they waited at is no more.
func (x stride) met() bool {
	return slices.ContainsFunc(x.replies, func(d api.Done) bool { return d.Core != x.core && d.Reply.Code != api.ErrGone })
}

// confined is P21.5, and P2: to who does it, and those who are answered.
func (x stride) confined() bool {
	l := append(x.answered(), x.core)
	return Confined(x.s, x.n, l...) && toldConfined(x.s, x.n, l)
}

// kept is P21.6: the slots that others reach, and the core that does it does not, are as they were, if nobody is met; but for those that it revokes, and those of nodes that die. How many slots these are.
func (x stride) kept() (int, bool) {
	if x.met() {
		return 0, true
	}
	own, count := toldReach(x.s, x.core), 0
	for other := range x.s.Roots {
		for _, k := range toldReach(x.s, other) {
			if slices.Contains(own, k) {
				continue
			}
			count++
			is := toldAt(x.n, k)
			if is == toldAt(x.s, k) || is == (api.Cap{}) && (x.revokes(k) || x.n.Arena.Things[k.Obj].Type == 0) {
				continue
			}
			return count, false
		}
	}
	return count, true
}

// revokes says whether it is a revocation, or a turn of one, of what the slot was derived from.
func (x stride) revokes(k api.Key) bool {
	if x.kind == api.EvTurn {
		return tree.Descends(x.s.Tree, k, x.s.Sweeps[x.core].Key)
	}
	from, ok := place(x.s, x.core, x.call.A)
	return x.call.Kind == api.CaRevoke && ok && tree.Descends(x.s.Tree, k, from)
}

// inPart says what the package says of a state that is not as it is told again.
func inPart(d *dice, s api.State) string {
	for core := -1; core <= len(s.Roots); core++ {
		if l := Reach(s, core); !slices.Equal(l, toldReach(s, core)) {
			return fmt.Sprint("Reach of ", core, l)
		}
		if l := Lent(s, core); !slices.Equal(l, toldLent(s, core)) {
			return fmt.Sprint("Lent of ", core, l)
		}
	}
	var l []api.Key
	for range 12 {
		l = append(l, key(d.upTo(len(s.Nodes)+2)-1, d.upTo(10)-1))
	}
	h := Holds(s, l)
	if !slices.Equal(h, toldHolds(s, l)) {
		return fmt.Sprint("Holds of ", l, h)
	}
	one := hold(d.upTo(len(s.Nodes)), d.upTo(2), d.upTo(16))
	if Covers(h, one) != toldCovers(h, one) {
		return fmt.Sprint("Covers of ", h, one)
	}
	return ""
}

// between says what the package says of two states that is not as it is told again; seen counts who is confined, and who is not.
func between(d *dice, s, n api.State, seen map[string]int) string {
	if l := Gained(s, n); !slices.Equal(l, toldGained(s, n)) {
		return fmt.Sprint("Gained ", l)
	}
	for range 3 {
		var l []int
		for range d.upTo(5) {
			l = append(l, d.upTo(len(s.Roots)+2)-1)
		}
		is := Confined(s, n, l...)
		if is != toldConfined(s, n, l) {
			return fmt.Sprint("Confined to ", l, is)
		}
		seen[fmt.Sprint("confined ", is, len(toldGained(s, n)) > 0)]++
	}
	return ""
}

// follow asks of a step all that the chapter says of it.
func (x stride) follow(t *testing.T, d *dice, seen map[string]int) {
	t.Helper()
	wrong := inPart(d, x.n)
	if wrong == "" {
		wrong = between(d, x.s, x.n, seen)
	}
	if wrong != "" {
		t.Fatalf("%s\nof %+v", wrong, x)
	}
	if !x.confined() {
		t.Fatalf("P21.5: %+v", x)
	}
	count, ok := x.kept()
	if !ok {
		t.Fatalf("P21.6: %+v", x)
	}
	if count > 0 {
		seen["apart"]++
	}
	if x.met() {
		seen["met"]++
	}
	seen["gained"] += len(toldGained(x.s, x.n))
	seen["reached"] = max(seen["reached"], len(Reach(x.n, x.core)))
	for _, one := range x.replies {
		seen[fmt.Sprint(x.call.Kind, one.Reply.Code == api.OK)]++
	}
}

// modelStride is something that a core does next; one that waits does nothing.
func modelStride(d *dice, s api.State, core int) stride {
	x := stride{s: s, core: core}
	switch {
	case s.Sweeps[core].On:
		x.kind, x.call = api.EvTurn, api.Call{Kind: api.CaRevoke}
		x.n, x.replies = model.Turn(s, core)
		return x
	case len(s.Limbo[core]) > 0 && d.upTo(3) == 0:
		x.kind = api.EvFree
		x.n, _, _ = model.Free(s, core)
		return x
	}
	x.call = d.call(s, core)
	if x.call.Kind == api.CaRevoke && d.upTo(2) == 0 {
		x.kind = api.EvBegin
		x.n, x.replies = model.Begin(s, core, x.call)
		return x
	}
	x.n, x.replies = model.Do(s, core, x.call)
	return x
}

// enough asks whether what runs have to come by came that often.
func enough(t *testing.T, seen map[string]int, least int, names ...string) {
	t.Helper()
	for _, name := range names {
		if seen[name] < least {
			t.Error("too few:", name, seen)
		}
	}
}

// everyKind are the answers to calls of each kind that runs have to come by.
var everyKind = []string{"1 true", "1 false", "2 true", "2 false", "3 true", "3 false", "4 true", "4 false", "5 true", "5 false", "6 true", "7 true", "8 true", "8 false", "9 true", "9 false", "10 true", "11 true", "12 true"}

// TestModelRuns: P21.1 to P21.6 over the steps of long runs of the model, and between states that are further apart.
func TestModelRuns(t *testing.T) {
	seen := map[string]int{}
	for seed := range 40 {
		d := dice(seed*7919 + 1)
		cores, domains := 1+d.upTo(6), 1+d.upTo(4)
		s, e := model.New(cores, 2*domains+4+d.upTo(24), d.one(1024, 4096, 1<<14), domains)
		if e != api.OK {
			t.Fatal(e)
		}
		past := []api.State{s}
		for range 400 {
			x := modelStride(&d, s, d.upTo(cores))
			x.follow(t, &d, seen)
			s = x.n
			if wrong := between(&d, past[d.upTo(len(past))], s, seen); wrong != "" {
				t.Fatal(seed, wrong)
			}
			past = append(past, s)
		}
	}
	enough(t, seen, 30, everyKind...)
	enough(t, seen, 200, "apart", "met", "gained", "confined true true", "confined false true", "confined true false")
	enough(t, seen, 32, "reached")
}

// TestKernelRuns: P21.1 to P21.6 over the steps of a kernel, in many orders.
func TestKernelRuns(t *testing.T) {
	seen := map[string]int{}
	for seed := range 40 {
		x := watched(t, seed, seen)
		x.each = func(one stride) { one.follow(t, x.d, seen) }
		x.run(3000)
		x.rounds()
	}
	enough(t, seen, 5, everyKind...)
	enough(t, seen, 200, "apart", "met", "gained", "confined true true", "confined false true", "confined true false")
	enough(t, seen, 32, "reached")
}

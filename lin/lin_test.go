package lin

import (
	"math"
	"slices"
	"testing"

	"garrison/api"
	"garrison/model"
)

// TestNumbers: the errors have the chapter's numbers.
func TestNumbers(t *testing.T) {
	if api.ErrReplies != 200 || api.ErrInside != 201 || api.ErrOnce != 202 || api.ErrHist != 180 {
		t.Fatal("numbers")
	}
}

// follows has Next make that of s, as it is written, and as model has it.
func follows(t *testing.T, s api.State, e api.Event, want api.State, l ...api.Done) api.State {
	t.Helper()
	n, replies := Next(s, e)
	if !model.Same(n, want) || !slices.Equal(replies, l) {
		t.Errorf("%+v: %+v, %+v, not\n%+v, %+v", e, replies, n, l, want)
	}
	return n
}

// TestNext: P20.1, by each Kind.
func TestNext(t *testing.T) {
	s := state(t)
	for _, c := range []api.Call{retype(2, api.TyFrame), write(2, 7), mint(2, 3)} {
		want, _ := model.Do(s, 0, c)
		s = follows(t, s, event(api.EvDo, 0, c, 1), want, ok(0))
	}
	s = follows(t, s, event(api.EvDo, 1, read(3), 5), s, done(1, api.Reply{Value: 7}))
	want, _ := model.Begin(s, 0, revoke(2))
	s = follows(t, s, event(api.EvBegin, 0, revoke(2), 6), want)
	if !s.Sweeps[0].On {
		t.Fatal("it has not begun")
	}
	for i, l := range [][]api.Done{nil, nil, {ok(0)}} {
		want, _ := model.Turn(s, 0)
		s = follows(t, s, event(api.EvTurn, 0, revoke(2), 7), want, l...)
		if marked := len(s.Tree) == 4 && s.Tree[2].Mark; marked != (i == 0) {
			t.Fatal(i, s.Tree)
		}
	}
	want, _ = model.Do(s, 0, erase(2))
	s = follows(t, s, event(api.EvDo, 0, erase(2), 8), want, ok(0))
	want, p, is := model.Free(s, 0)
	if p != 4 || !is {
		t.Fatal("nothing has died", p, is)
	}
	s = follows(t, s, event(api.EvFree, 0, api.Call{}, 9), want)
	if len(s.Limbo[0]) != 0 {
		t.Fatal(s.Limbo)
	}
	follows(t, s, event(api.EvFree, 0, api.Call{}, 10), s)
}

// TestNextOfOthers: P20.1: an event is the Kind's, whoever the Call is for; what it says of its replies has no part in it, nor its Stamp.
func TestNextOfOthers(t *testing.T) {
	s := state(t, event(api.EvDo, 0, mint(0, 2), 1), event(api.EvBegin, 1, revoke(0), 2))
	marked, _ := model.Turn(s, 1)
	gone, _ := model.Do(state(t, event(api.EvDo, 0, mint(0, 2), 1)), 0, revoke(0))
	for _, stamp := range append([]int{-1, 0, 1}, ends...) {
		replies := []api.Done{ok(1), done(64, code(api.ErrGone))}
		follows(t, s, event(api.EvTurn, 1, look(1), stamp, replies...), marked)
		follows(t, s, event(api.EvTurn, 1, api.Call{Kind: stamp, B: 9}, stamp), marked)
		follows(t, s, event(api.EvTurn, 0, revoke(0), stamp, replies...), s)
		follows(t, s, event(api.EvFree, 0, look(1), stamp, replies...), s)
		follows(t, s, event(api.EvBegin, 0, look(1), stamp), s, done(0, code(api.ErrCall)))
		follows(t, s, event(api.EvBegin, 0, revoke(3), stamp), s, done(0, code(api.ErrNone)))
		follows(t, s, event(api.EvDo, 0, api.Call{}, stamp), s, done(0, code(api.ErrCall)))
	}
	follows(t, state(t, event(api.EvDo, 0, mint(0, 2), 1)), event(api.EvDo, 0, revoke(0), 3), gone, ok(0))
}

// TestNextWrong: kinds of events that there are not, and cores that there are not: nothing happens.
func TestNextWrong(t *testing.T) {
	fresh := state(t, event(api.EvDo, 0, mint(0, 2), 1))
	dead := state(t, event(api.EvDo, 0, retype(2, api.TyFrame), 1), event(api.EvDo, 0, erase(2), 2))
	swept := state(t, event(api.EvDo, 0, mint(0, 2), 1), event(api.EvBegin, 0, revoke(0), 2))
	waits := state(t, event(api.EvDo, 0, recv(1), 1))
	for _, s := range []api.State{fresh, dead, swept, waits} {
		for _, kind := range append([]int{-1, 4, 5, 256, -256}, ends...) {
			for _, core := range append([]int{-1, 0, 1, 2, 63, 64}, ends...) {
				for _, c := range []api.Call{look(0), revoke(0), {}, {Kind: kind}} {
					follows(t, s, event(kind, core, c, 3, ok(core)), s)
				}
			}
		}
		for kind := range 4 {
			for _, core := range append([]int{-1, 2, 3, 63, 64, 65}, ends...) {
				for _, c := range []api.Call{look(0), revoke(0), {}} {
					follows(t, s, event(kind, core, c, 3), s)
				}
			}
		}
	}
	follows(t, waits, event(api.EvDo, 0, look(0), 3), waits)
	follows(t, waits, event(api.EvBegin, 0, revoke(0), 3), waits)
	follows(t, swept, event(api.EvDo, 0, look(0), 3), swept)
	follows(t, swept, event(api.EvBegin, 0, revoke(0), 3), swept)
	for kind := -1; kind <= 4; kind++ {
		for core := -1; core <= 1; core++ {
			follows(t, api.State{}, event(kind, core, look(0), 1), api.State{})
		}
	}
}

// TestExample: the chapter's one.
func TestExample(t *testing.T) {
	s := state(t)
	d := ok(0)
	h := history(spans(over(0, look(5), 1, 5, d.Reply)), events(event(api.EvDo, 0, look(5), 3, d)))
	checks(t, s, h, s, api.OK)
	if !slices.Equal(Order(h), []int{0}) || !Respects(h, Order(h)) {
		t.Error(Order(h))
	}
	h.Events[0].Stamp = 6
	checks(t, s, h, s, api.ErrInside)
	if len(Order(h)) != 0 {
		t.Error(Order(h))
	}
}

// TestNothing: what is empty is as if one behind the other.
func TestNothing(t *testing.T) {
	s := state(t)
	for _, h := range []api.History{{}, history(spans(), events()), history(spans(begun(0, look(0), 1)), nil), history(spans(begun(63, api.Call{}, math.MaxInt)), nil)} {
		checks(t, s, h, s, api.OK)
		if len(Order(h)) != 0 || !Respects(h, nil) || !Respects(h, []int{}) {
			t.Error(h)
		}
	}
	checks(t, api.State{}, api.History{}, api.State{}, api.OK)
}

// TestStamps: P20.2: where an event's Stamp is in its span: at its Start, at its End, one ahead, one behind, in an open span.
func TestStamps(t *testing.T) {
	s := state(t)
	none := code(api.ErrNone)
	for _, c := range []struct {
		start, end, stamp int
		in                bool
	}{
		{4, 9, 3, false}, {4, 9, 4, true}, {4, 9, 5, true}, {4, 9, 8, true}, {4, 9, 9, true}, {4, 9, 10, false},
		{4, 9, 1, false}, {4, 9, math.MaxInt, false},
		{4, 4, 3, false}, {4, 4, 4, true}, {4, 4, 5, false},
		{1, 1, 1, true}, {1, 1, 2, false},
		{4, 0, 3, false}, {4, 0, 4, true}, {4, 0, 5, true}, {4, 0, math.MaxInt, true}, {4, 0, 1, false},
		{math.MaxInt, math.MaxInt, math.MaxInt, true}, {math.MaxInt, math.MaxInt, math.MaxInt - 1, false},
		{1, math.MaxInt, math.MaxInt, true}, {1, math.MaxInt - 1, math.MaxInt, false}, {math.MaxInt, 0, math.MaxInt, true},
	} {
		x, e := over(0, read(3), c.start, c.end, none), event(api.EvDo, 0, read(3), c.stamp, done(0, none))
		want := api.ErrInside
		if c.in {
			want = api.OK
		}
		if c.end == 0 {
			x.Reply = api.Reply{}
		}
		h := history(spans(x), events(e))
		checks(t, s, h, s, want)
		order := []int{0}[:min(c.end, 1)]
		if !c.in {
			order = nil
		}
		if !slices.Equal(Order(h), order) {
			t.Error(c, Order(h))
		}
	}
}

// TestBetween: an event between two spans of its core, or in the one of them that has another Call, is inside none.
func TestBetween(t *testing.T) {
	s := state(t)
	word, none := api.Reply{}, code(api.ErrNone)
	base := spans(over(0, read(3), 2, 4, none), over(0, look(3), 6, 8, word), over(0, read(3), 10, 12, none))
	at := func(l ...int) []api.Event {
		return events(event(0, 0, read(3), l[0], done(0, none)), event(0, 0, look(3), l[1], done(0, word)), event(0, 0, read(3), l[2], done(0, none)))
	}
	for _, c := range []struct {
		l []int
		e api.Errno
	}{
		{[]int{2, 6, 10}, api.OK}, {[]int{4, 8, 12}, api.OK}, {[]int{3, 7, 11}, api.OK},
		{[]int{1, 7, 11}, api.ErrInside}, {[]int{5, 7, 11}, api.ErrInside}, {[]int{3, 5, 11}, api.ErrInside}, {[]int{3, 9, 11}, api.ErrInside}, {[]int{3, 7, 9}, api.ErrInside}, {[]int{3, 7, 13}, api.ErrInside},
		{[]int{6, 7, 11}, api.ErrInside}, {[]int{3, 4, 11}, api.ErrInside}, {[]int{3, 7, 8}, api.ErrInside}, {[]int{3, 10, 11}, api.ErrInside},
	} {
		checks(t, s, history(base, at(c.l...)), s, c.e)
	}
	checks(t, s, history(base, at(2, 7, 11)[:2]), s, api.ErrOnce)
	checks(t, s, history(base, at(2, 7, 11)[1:]), s, api.ErrOnce)
}

// TestAnothers: P20.2: an event in a span of another core, or of another Call, whichever field of it is another one.
func TestAnothers(t *testing.T) {
	s := state(t)
	none := code(api.ErrNone)
	e := event(api.EvDo, 0, read(3), 3, done(0, none))
	checks(t, s, history(spans(over(1, read(3), 1, 5, none)), events(e)), s, api.ErrInside)
	checks(t, s, history(spans(begun(1, read(3), 1)), events(e)), s, api.ErrInside)
	checks(t, s, history(nil, events(e)), s, api.ErrInside)
	checks(t, s, history(spans(over(0, read(3), 1, 5, none), begun(1, read(3), 1)), events(e)), s, api.OK)
	checks(t, s, history(spans(begun(1, read(3), 1), over(0, read(3), 1, 5, none)), events(e)), s, api.OK)
	for _, turn := range []func(*api.Call){
		func(c *api.Call) { c.Kind = api.CaLook },
		func(c *api.Call) { c.A = to(4) },
		func(c *api.Call) { c.B = 1 },
		func(c *api.Call) { c.Rights = 1 },
		func(c *api.Call) { c.Badge = 1 },
		func(c *api.Call) { c.Type = 1 },
		func(c *api.Call) { c.Size = 1 },
		func(c *api.Call) { c.Value = 1 },
	} {
		c := read(3)
		turn(&c)
		checks(t, s, history(spans(over(0, c, 1, 5, none)), events(e)), s, api.ErrInside)
		checks(t, s, history(spans(begun(0, c, 1)), events(e)), s, api.ErrInside)
		_, l := model.Do(s, 0, c)
		checks(t, s, history(spans(over(0, read(3), 1, 5, none)), events(event(api.EvDo, 0, c, 3, l...))), s, api.ErrInside)
		checks(t, s, history(spans(over(0, c, 1, 5, l[0].Reply)), events(event(api.EvDo, 0, c, 3, l...))), s, api.OK)
	}
}

// revoked is a revocation, from the state ahead of it on: one is derived from the slot 0.
func revoked(t *testing.T) (api.State, api.History) {
	t.Helper()
	return state(t, event(api.EvDo, 0, mint(0, 2), 1)), history(spans(over(0, revoke(0), 2, 9, api.Reply{})), events(
		event(api.EvBegin, 0, revoke(0), 3),
		event(api.EvTurn, 0, revoke(0), 4),
		event(api.EvTurn, 0, revoke(0), 6),
		event(api.EvTurn, 0, revoke(0), 8, ok(0)),
	))
}

// TestTurns: P20.2: an EvTurn inside a CaRevoke, whatever its own Call, and inside another call, even with that Call.
func TestTurns(t *testing.T) {
	s, h := revoked(t)
	end := toldAll(s, h.Events)
	checks(t, s, h, end, api.OK)
	if len(end.Tree) != 2 || end.Sweeps[0].On || !slices.Equal(Order(h), []int{0}) {
		t.Fatal(end, Order(h))
	}
	for _, c := range []api.Call{{}, look(0), revoke(5), {Kind: -1}} {
		x := roomy(h)
		x.Events[1].Call, x.Events[3].Call = c, c
		checks(t, s, x, end, api.OK)
	}
	for _, c := range []api.Call{{}, look(0), {Kind: -1}, {Kind: api.CaDelete, A: to(0)}} {
		for _, called := range []api.Call{c, revoke(0)} {
			checks(t, s, history(spans(begun(0, c, 2)), events(event(api.EvTurn, 0, called, 4))), s, api.ErrInside)
		}
	}
	x := roomy(h)
	x.Spans[0].Call = revoke(5)
	checks(t, s, x, s, api.ErrInside) // it is the EvBegin that is in none with its Call
	x.Events = nil
	for _, stamp := range []int{2, 4, 9} {
		x.Events = append(x.Events, event(api.EvTurn, 0, revoke(0), stamp)) // nothing has begun, so that it does nothing
	}
	checks(t, s, x, s, api.ErrOnce)
	x.Spans[0] = begun(0, revoke(5), 2)
	checks(t, s, x, s, api.OK)
	x.Spans[0].Core = 1
	checks(t, s, x, s, api.ErrInside)
}

// TestTurnStamps: P20.2: where an EvTurn's Stamp is in a CaRevoke, with another call of its core ahead of that, and behind it.
func TestTurnStamps(t *testing.T) {
	s, _ := revoked(t)
	l := spans(begun(0, look(0), 1), over(0, revoke(0), 5, 8, api.Reply{}), begun(0, look(0), 9))
	l[0].End = 4
	for stamp, want := range map[int]api.Errno{1: api.ErrInside, 4: api.ErrInside, 5: api.ErrOnce, 6: api.ErrOnce, 8: api.ErrOnce, 9: api.ErrInside, 10: api.ErrInside} {
		checks(t, s, history(l, events(event(api.EvTurn, 0, revoke(0), stamp))), s, want)
	}
}

// TestBegins: an EvBegin of another call is answered as the model does, and inside that call.
func TestBegins(t *testing.T) {
	s := state(t)
	bad := code(api.ErrCall)
	h := history(spans(over(0, look(0), 1, 5, bad)), events(event(api.EvBegin, 0, look(0), 3, done(0, bad))))
	checks(t, s, h, s, api.OK)
	none := code(api.ErrNone)
	h = history(spans(over(0, revoke(3), 1, 5, none)), events(event(api.EvBegin, 0, revoke(3), 3, done(0, none))))
	checks(t, s, h, s, api.OK)
}

// TestRevokeAtOnce: P20.2: an EvDo of a CaRevoke, with the replies of the model, too.
func TestRevokeAtOnce(t *testing.T) {
	s, _ := revoked(t)
	checks(t, s, history(spans(over(0, revoke(0), 2, 9, api.Reply{})), events(event(api.EvDo, 0, revoke(0), 3, ok(0)))), s, api.ErrReplies)
	checks(t, s, history(spans(begun(0, revoke(0), 2)), events(event(api.EvDo, 0, revoke(0), 3))), s, api.ErrReplies)
	for _, c := range []api.Call{revoke(3), {Kind: api.CaRevoke}, {Kind: api.CaRevoke, A: to(0), Size: 1}} {
		_, l := model.Do(s, 0, c)
		checks(t, s, history(spans(over(0, c, 2, 9, l[0].Reply)), events(event(api.EvDo, 0, c, 3, l...))), s, api.ErrReplies)
		_, m := model.Begin(s, 0, c)
		checks(t, s, history(spans(over(0, c, 2, 9, m[0].Reply)), events(event(api.EvBegin, 0, c, 3, m...))), s, api.OK)
	}
}

// TestFrees: P20.2: an EvFree with and without something free, with replies, and inside no span.
func TestFrees(t *testing.T) {
	made := event(api.EvDo, 0, retype(2, api.TyFrame), 2, ok(0))
	died := event(api.EvDo, 0, erase(2), 5, ok(0))
	l := spans(over(0, retype(2, api.TyFrame), 1, 3, api.Reply{}), over(0, erase(2), 4, 6, api.Reply{}))
	s := state(t)
	dead := toldAll(s, events(made, died))
	free := func(core, stamp int, l ...api.Done) api.Event {
		return event(api.EvFree, core, api.Call{}, stamp, l...)
	}
	end := toldAll(dead, events(free(0, 8)))
	if model.Same(dead, end) {
		t.Fatal("nothing has died")
	}
	checks(t, s, history(l, events(made, died, free(0, 8))), end, api.OK) // inside no span
	checks(t, s, history(l, events(made, died, free(0, 6))), end, api.OK)
	checks(t, s, history(l, events(made, died, event(api.EvFree, 0, look(7), 8))), end, api.OK)
	checks(t, s, history(l, events(made, died, free(0, 8), free(0, 9))), end, api.ErrReplies)
	checks(t, s, history(l, events(made, died, free(1, 8))), dead, api.ErrReplies)
	checks(t, s, history(l, events(made, died, free(2, 8))), dead, api.ErrReplies)
	checks(t, s, history(l, events(made, died, free(63, 8))), dead, api.ErrReplies)
	checks(t, s, history(l, events(made, died, free(0, 8, ok(0)))), dead, api.ErrReplies)
	checks(t, s, history(l, events(made, died, free(0, 8, ok(9)))), dead, api.ErrReplies)
	checks(t, s, history(l, events(made, free(0, 4), died)), toldAll(s, events(made)), api.ErrReplies)
	checks(t, s, history(nil, events(free(0, 1))), s, api.ErrReplies)
	checks(t, dead, history(nil, events(free(0, 1))), end, api.OK)
	checks(t, dead, history(spans(begun(1, look(0), 1)), events(free(0, 1))), end, api.OK)
}

// met is a meeting: core 0 waits to receive, core 1 sends; both are answered by the event of core 1.
func met(t *testing.T) (api.State, api.History) {
	t.Helper()
	got := api.Reply{Value: 7}
	return state(t), history(spans(over(0, recv(1), 1, 7, got), over(1, send(1, 7), 3, 6, api.Reply{})), events(
		event(api.EvDo, 0, recv(1), 2),
		event(api.EvDo, 1, send(1, 7), 5, ok(1), done(0, got)),
	))
}

// TestReplies: P20.2: replies that are too few, too many, in another order, of another core, or others.
func TestReplies(t *testing.T) {
	s, h := met(t)
	checks(t, s, h, s, api.OK) // nobody waits any more
	waits := toldAll(s, h.Events[:1])
	if model.Same(waits, s) {
		t.Fatal("it does not wait")
	}
	own, other := h.Events[1].Replies[0], h.Events[1].Replies[1]
	for _, l := range [][]api.Done{
		nil, {}, {own}, {other}, {other, own}, {own, own}, {other, other}, {own, other, own}, {own, other, other}, {own, other, {}}, {{}, own, other},
		{ok(0), other}, {own, done(1, other.Reply)}, {own, done(2, other.Reply)}, {done(-1, own.Reply), other}, {done(64, own.Reply), other},
		{done(1, code(api.ErrNone)), other},
		{own, done(0, api.Reply{Value: 8})}, {own, done(0, api.Reply{Value: 7, Badge: 1})}, {own, done(0, api.Reply{Value: 7, Cap: true})}, {own, done(0, api.Reply{Value: 7, Code: api.ErrGone})},
	} {
		x := roomy(h)
		x.Events[1].Replies = l
		checks(t, s, x, waits, api.ErrReplies)
	}
	for _, l := range [][]api.Done{{ok(0)}, {other}, {ok(1)}} {
		x := roomy(h)
		x.Events[0].Replies = l
		checks(t, s, x, s, api.ErrReplies)
	}
}

// TestKinds: P20.2: an event of another Kind, or of another core, is not what happened.
func TestKinds(t *testing.T) {
	s, h := met(t)
	for kind := range 4 {
		for core := range 3 {
			x := roomy(h)
			x.Events[0].Kind, x.Events[0].Core = kind, core
			n, e := toldCheck(s, x)
			if kind == 0 && core == 0 && e != api.OK || (kind != 0 || core != 0) && e == api.OK {
				t.Error(kind, core, e)
			}
			checks(t, s, x, n, e)
		}
	}
}

// TestOnceEach: P20.2: a span that is over and not answered, answered twice, answered with another reply, answered by another core's event.
func TestOnceEach(t *testing.T) {
	s, h := met(t)
	waits := toldAll(s, h.Events[:1])
	checks(t, s, history(h.Spans, h.Events[:1]), waits, api.ErrOnce)
	checks(t, s, history(h.Spans[:1], h.Events[:1]), waits, api.ErrOnce)
	checks(t, s, history(h.Spans, nil), s, api.ErrOnce)
	checks(t, s, history(spans(h.Spans[0], begun(1, send(1, 7), 3)), h.Events), s, api.OK)
	checks(t, s, history(spans(begun(0, recv(1), 1), h.Spans[1]), h.Events), s, api.OK)
	checks(t, s, history(spans(begun(0, recv(1), 1), begun(1, send(1, 7), 3)), h.Events), s, api.OK)
	for at := range 2 {
		for _, turn := range []func(*api.Reply){
			func(r *api.Reply) { r.Code = api.ErrGone },
			func(r *api.Reply) { r.Value++ },
			func(r *api.Reply) { r.Badge = 1 },
			func(r *api.Reply) { r.Cap = true },
		} {
			x := roomy(h)
			turn(&x.Spans[at].Reply)
			checks(t, s, x, s, api.ErrOnce)
		}
	}
	// Core 0 is answered at 5, by the event of core 1: its span has to last until then, and core 1's has no part in that.
	for end, want := range map[int]api.Errno{2: api.ErrOnce, 3: api.ErrOnce, 4: api.ErrOnce, 5: api.OK, 6: api.OK, math.MaxInt: api.OK} {
		x := roomy(h)
		x.Spans[0].End = end
		checks(t, s, x, s, want)
	}
	x := roomy(h)
	x.Spans = append(x.Spans[:1:1], over(0, look(5), 9, 12, api.Reply{}), over(1, send(1, 7), 9, 12, api.Reply{}))
	x.Events[1].Stamp = 10 // in another span of core 0
	checks(t, s, x, s, api.ErrOnce)
}

// TestTwice: P20.2: a span that is answered twice by two events, or open and answered not at all, once, twice.
func TestTwice(t *testing.T) {
	s := state(t)
	none := code(api.ErrNone)
	e := func(stamp int) api.Event { return event(api.EvDo, 0, read(3), stamp, done(0, none)) }
	for _, c := range []struct {
		l     []api.Event
		ended api.Errno
		open  api.Errno
	}{
		{nil, api.ErrOnce, api.OK},
		{events(e(3)), api.OK, api.OK},
		{events(e(3), e(4)), api.ErrOnce, api.ErrOnce},
		{events(e(2), e(5)), api.ErrOnce, api.ErrOnce},
		{events(e(2), e(3), e(5)), api.ErrOnce, api.ErrOnce},
	} {
		checks(t, s, history(spans(over(0, read(3), 2, 5, none)), c.l), s, c.ended)
		checks(t, s, history(spans(begun(0, read(3), 2)), c.l), s, c.open)
	}
	two := spans(over(0, read(3), 2, 4, none), over(0, read(3), 5, 6, none))
	checks(t, s, history(two, events(e(4), e(5))), s, api.OK)
	checks(t, s, history(two, events(e(2), e(4))), s, api.ErrOnce)
	checks(t, s, history(two, events(e(5), e(6))), s, api.ErrOnce)
	checks(t, s, history(two, events(e(2), e(4), e(6))), s, api.ErrOnce)
	open := spans(two[0], begun(0, read(3), 5))
	checks(t, s, history(open, events(e(4))), s, api.OK)
	checks(t, s, history(open, events(e(4), e(5))), s, api.OK)
	checks(t, s, history(open, events(e(4), e(5), e(6))), s, api.ErrOnce)
	checks(t, s, history(open, events(e(5))), s, api.ErrOnce)
}

// TestWhichComesFirst: P20.2: which error is answered, and the state with it.
func TestWhichComesFirst(t *testing.T) {
	s := state(t)
	none := code(api.ErrNone)
	l := spans(over(0, retype(2, api.TyFrame), 1, 4, api.Reply{}), over(1, read(3), 2, 5, none), over(0, write(2, 9), 6, 8, api.Reply{}), over(0, read(2), 9, 9, api.Reply{Value: 9}))
	made, looked, wrote := event(0, 0, l[0].Call, 2, ok(0)), event(0, 1, read(3), 3, done(1, none)), event(0, 0, write(2, 9), 7, ok(0))
	asked := event(0, 0, read(2), 9, done(0, api.Reply{Value: 9}))
	h := history(l, events(made, looked, wrote, asked))
	end := toldAll(s, h.Events)
	behind := func(n int) api.State { return toldAll(s, h.Events[:n]) }
	for i := range 3 {
		if same := model.Same(behind(i), behind(i+1)); same != (i == 1) {
			t.Fatal(i)
		}
	}
	replies := func(at int) func(*api.History) { return func(x *api.History) { x.Events[at].Replies = nil } }
	outside := func(at int) func(*api.History) { return func(x *api.History) { x.Spans[at].Call.B = 77 } }
	other := func(at int) func(*api.History) { return func(x *api.History) { x.Spans[at].Reply.Badge = 5 } }
	bad := func(x *api.History) { x.Events[3].Kind = 4 }
	early := func(x *api.History) { x.Spans[1].Start = 0 }
	for _, c := range []struct {
		turns []func(*api.History)
		want  api.State
		e     api.Errno
	}{
		{nil, end, api.OK},
		{[]func(*api.History){bad}, s, api.ErrHist},
		{[]func(*api.History){early}, s, api.ErrHist},
		{[]func(*api.History){bad, replies(0), outside(0), other(0)}, s, api.ErrHist},
		{[]func(*api.History){early, replies(3), outside(2), other(1)}, s, api.ErrHist},
		{[]func(*api.History){replies(0)}, s, api.ErrReplies},
		{[]func(*api.History){replies(1)}, behind(1), api.ErrReplies},
		{[]func(*api.History){replies(2)}, behind(2), api.ErrReplies},
		{[]func(*api.History){replies(3)}, behind(3), api.ErrReplies},
		{[]func(*api.History){outside(0)}, s, api.ErrInside},
		{[]func(*api.History){outside(1)}, behind(1), api.ErrInside},
		{[]func(*api.History){outside(2)}, behind(2), api.ErrInside},
		{[]func(*api.History){outside(3)}, behind(3), api.ErrInside},
		{[]func(*api.History){outside(0), replies(0)}, s, api.ErrReplies},
		{[]func(*api.History){outside(2), replies(2)}, behind(2), api.ErrReplies},
		{[]func(*api.History){outside(2), replies(1)}, behind(1), api.ErrReplies},
		{[]func(*api.History){outside(1), replies(2)}, behind(1), api.ErrInside},
		{[]func(*api.History){outside(0), replies(3)}, s, api.ErrInside},
		{[]func(*api.History){other(0)}, end, api.ErrOnce},
		{[]func(*api.History){other(3)}, end, api.ErrOnce},
		{[]func(*api.History){other(0), outside(2)}, behind(2), api.ErrInside},
		{[]func(*api.History){other(0), replies(3)}, behind(3), api.ErrReplies},
		{[]func(*api.History){func(x *api.History) { x.Events = x.Events[:2] }}, behind(2), api.ErrOnce},
		{[]func(*api.History){func(x *api.History) { x.Spans[3] = begun(0, read(2), 9) }}, end, api.OK},
	} {
		x := roomy(h)
		for _, turn := range c.turns {
			turn(&x)
		}
		checks(t, s, x, c.want, c.e)
	}
}

// TestFromAnother: P20.2: a history is held against what comes of the state that is handed in.
func TestFromAnother(t *testing.T) {
	s, h := revoked(t)
	fresh, more, on := state(t), toldAll(s, events(event(api.EvDo, 1, mint(0, 3), 1))), toldAll(s, h.Events[:1])
	checks(t, fresh, h, toldAll(fresh, h.Events[:1]), api.ErrReplies) // nothing is below: the first turn is the last one
	checks(t, more, h, toldAll(more, h.Events[:3]), api.ErrReplies)   // two are below: the third turn is not the last one
	checks(t, on, h, toldAll(s, h.Events), api.OK)                    // it has begun ahead of it, so that to begin does nothing
	checks(t, api.State{}, h, api.State{}, api.ErrReplies)            // there are no cores, so that nobody is answered
}

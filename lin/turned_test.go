package lin

import (
	"math"
	"reflect"
	"slices"
	"testing"

	"garrison/api"
	"garrison/hist"
	"garrison/kernel"
	"garrison/model"
)

// alike has Check answer as the chapter's second telling does: with which error.
func alike(t *testing.T, s api.State, h api.History) api.Errno {
	t.Helper()
	n, e := Check(s, h)
	if m, want := toldCheck(s, h); e != want || !model.Same(n, m) {
		t.Fatalf("%+v: %d, %+v, not\n%d, %+v", h, e, n, want, m)
	}
	return e
}

// every asks whether each of Check's answers came that often.
func every(t *testing.T, codes map[api.Errno]int, least int) {
	t.Helper()
	for _, e := range []api.Errno{api.OK, api.ErrReplies, api.ErrInside, api.ErrOnce, api.ErrHist} {
		if codes[e] < least {
			t.Error("too few", e, codes)
		}
	}
}

// number is another one than n, mostly near to it.
func (d *dice) number(n int) int {
	if d.upTo(12) == 0 {
		return ends[d.upTo(len(ends))]
	}
	return n + d.one(-2, -1, -1, 1, 1, 2, 5)
}

func (d *dice) turnReply(r *api.Reply) {
	switch d.upTo(4) {
	case 0:
		r.Code = api.Errno(d.number(int(r.Code)))
	case 1:
		r.Value++
	case 2:
		r.Badge++
	default:
		r.Cap = !r.Cap
	}
}

func (d *dice) turnCall(c *api.Call) {
	switch d.upTo(4) {
	case 0:
		c.Kind = d.number(c.Kind)
	case 1:
		c.A = d.address()
	case 2:
		c.Value++
	default:
		c.Kind = api.CaRevoke
	}
}

// turnReplies has an event answer others, or otherwise.
func (d *dice) turnReplies(e *api.Event) {
	n := len(e.Replies)
	switch {
	case n == 0 || d.upTo(5) == 0:
		e.Replies = append(e.Replies, done(d.upTo(4), api.Reply{}))
	case d.upTo(4) == 0:
		e.Replies = e.Replies[:n-1]
	case d.upTo(3) == 0:
		slices.Reverse(e.Replies)
	case d.upTo(2) == 0:
		e.Replies[d.upTo(n)].Core = d.number(1)
	default:
		d.turnReply(&e.Replies[d.upTo(n)].Reply)
	}
}

func (d *dice) turnEvent(h *api.History) {
	at := d.upTo(len(h.Events))
	e := &h.Events[at]
	switch d.upTo(9) {
	case 0, 1:
		e.Stamp = d.number(e.Stamp)
	case 2:
		e.Kind = d.number(e.Kind)
	case 3:
		e.Core = d.number(e.Core)
	case 4:
		d.turnCall(&e.Call)
	case 5, 6:
		d.turnReplies(e)
	case 7:
		h.Events = slices.Delete(h.Events, at, at+1)
	default:
		h.Events = slices.Insert(h.Events, at, *e)
		h.Events[at+1].Stamp++
	}
}

func (d *dice) turnSpan(h *api.History) {
	at := d.upTo(len(h.Spans))
	x := &h.Spans[at]
	switch d.upTo(8) {
	case 0, 1:
		x.Start = d.number(x.Start)
	case 2, 3:
		x.End = d.number(x.End)
	case 4:
		x.End, x.Reply = 0, api.Reply{}
	case 5:
		d.turnCall(&x.Call)
	case 6:
		d.turnReply(&x.Reply)
	default:
		h.Spans = slices.Delete(h.Spans, at, at+1)
	}
}

// TestTurnedRuns: P20.2, P20.3 of what kernels did, with something turned: held against the chapter's second telling.
func TestTurnedRuns(t *testing.T) {
	codes := map[api.Errno]int{}
	for seed := range 40 {
		d := dice(seed*31337 + 11)
		cores := 1 + d.upTo(4)
		k, _ := kernel.New(cores, 12, 256, 1)
		s, _ := model.New(cores, 12, 256, 1)
		for core := range cores {
			for range 2 + d.upTo(4) {
				k.Load(core, d.call())
			}
		}
		k.Run(d.picks(cores, 300)...)
		h := linear(t, s, k)
		for range 60 {
			x := roomy(h)
			for range 1 + d.upTo(2) {
				if d.upTo(2) == 0 && len(x.Events) > 0 {
					d.turnEvent(&x)
				} else if len(x.Spans) > 0 {
					d.turnSpan(&x)
				}
			}
			e := alike(t, s, x)
			l := Order(x)
			if !slices.Equal(l, toldOrder(x)) || Respects(x, l) != toldRespects(x, l) || e == api.OK && !Respects(x, l) {
				t.Fatalf("seed %d: %+v: %v", seed, x, l)
			}
			for i := range l {
				j := d.upTo(len(l))
				l[i], l[j] = l[j], l[i]
			}
			if Respects(x, l) != toldRespects(x, l) {
				t.Fatalf("seed %d: %+v: %v", seed, x, l)
			}
			codes[e]++
		}
	}
	every(t, codes, 100)
}

// TestSmallHistories: P20.2 of small histories of two spans and two events, many of them: held against the chapter's second telling.
func TestSmallHistories(t *testing.T) {
	s := state(t, event(api.EvDo, 0, mint(0, 2), 1))
	codes := map[api.Errno]int{}
	d := dice(99)
	calls := []api.Call{read(3), recv(1), send(1, 0), revoke(2), revoke(3)}
	replies := []api.Reply{{}, {}, code(api.ErrNone)}
	for range 60000 {
		var h api.History
		for i := range 2 {
			x := over(d.upTo(2), calls[d.upTo(len(calls))], 1+i+d.upTo(2), 3+d.upTo(3), replies[d.upTo(3)])
			if d.upTo(3) == 0 {
				x.End, x.Reply = 0, api.Reply{}
			}
			h.Spans = append(h.Spans, x)
		}
		n := s
		for i := range 1 + d.upTo(3) {
			x := h.Spans[d.upTo(2)]
			e := event(d.one(0, 0, 0, 1, 1, 2, 3), x.Core, x.Call, 2*i+1+d.upTo(3), ok(d.upTo(2)))
			if d.upTo(4) > 0 {
				n, e.Replies = toldNext(n, e)
			}
			h.Events = append(h.Events, e)
		}
		codes[alike(t, s, h)]++
	}
	every(t, codes, 500)
}

// TestWrongHistories: histories that hist.Check refuses, of numbers from the ends of int: Check answers the state that was handed in, and nothing panics.
func TestWrongHistories(t *testing.T) {
	s := state(t, event(api.EvDo, 0, mint(0, 2), 1))
	d := dice(7)
	refused := 0
	for range 4000 {
		number := func() int { return d.number(d.upTo(4)) }
		var h api.History
		for range d.upTo(4) {
			h.Spans = append(h.Spans, over(number(), look(d.upTo(3)), number(), number(), code(api.Errno(d.upTo(2)))))
		}
		for range d.upTo(4) {
			h.Events = append(h.Events, event(number(), number(), look(d.upTo(3)), number(), done(number(), api.Reply{}), ok(d.upTo(2))))
		}
		alike(t, s, h)
		if hist.Check(h) != api.OK {
			refused++
			checks(t, s, h, s, api.ErrHist)
		}
		l := []int{number(), d.upTo(3), number()}
		if !slices.Equal(Order(h), toldOrder(h)) || Respects(h, l) != toldRespects(h, l) {
			t.Fatalf("%+v: %v, %v", h, Order(h), l)
		}
	}
	if refused < 2000 || refused == 4000 {
		t.Fatal("too few", refused)
	}
}

// TestWrongStates: on states that came of no call, calls end, and do not panic.
func TestWrongStates(t *testing.T) {
	_, h := met(t)
	_, r := revoked(t)
	h.Events = append(h.Events, event(api.EvFree, 0, api.Call{}, 7), event(api.EvFree, 1, api.Call{}, 8), event(api.EvTurn, 1, api.Call{}, 9))
	for _, turn := range []func(*api.State){
		func(s *api.State) { s.Nodes = nil },
		func(s *api.State) { s.Ports = nil },
		func(s *api.State) { s.Limbo = nil },
		func(s *api.State) { s.Sweeps = s.Sweeps[:1] },
		func(s *api.State) { s.Tree = nil },
		func(s *api.State) { s.Arena = api.Arena{} },
		func(s *api.State) { s.Limbo[0] = []int{-1, 64, math.MinInt} },
		func(s *api.State) { s.Roots[0], s.Roots[1] = -1, math.MaxInt },
		func(s *api.State) { s.Sweeps[0] = api.Sweep{On: true, Key: api.Key{Obj: math.MaxInt, Slot: -9}} },
		func(s *api.State) { s.Nodes[0][1].Obj = math.MinInt },
		func(s *api.State) {
			s.Ports[2] = api.Port{Kind: 2, Queue: []api.Waiter{{Core: math.MaxInt}, {Core: math.MaxInt}, {Core: -1}}}
		},
	} {
		for _, one := range []api.History{h, r} {
			s := state(t)
			turn(&s)
			alike(t, s, one)
			for _, x := range one.Events {
				Next(s, x)
			}
		}
	}
}

// scribble writes over a list, and over the room behind it.
func scribble[T any](l []T, with T) {
	l = l[:cap(l)]
	for i := range l {
		l[i] = with
	}
}

// TestNothingIsChanged: what is handed in is as it was behind each call, its spare room too; what is answered hangs on that alone, and shares nothing with it, but for states.
func TestNothingIsChanged(t *testing.T) {
	for seed := range 12 {
		d := dice(seed*17 + 2)
		k, _ := kernel.New(3, 12, 256, 2)
		first, _ := model.New(3, 12, 256, 2)
		for core := range 3 {
			k.Load(core, d.call(), d.call(), d.call(), d.call())
		}
		k.Run(d.picks(3, 400)...)
		s, h := roomy(first), roomy(linear(t, first, k))
		l := roomy(Order(h))
		wasS, wasH, wasL := whole(s), whole(h), slices.Clone(l[:cap(l)])
		unchanged := func() {
			t.Helper()
			if !reflect.DeepEqual(whole(s), wasS) || !reflect.DeepEqual(whole(h), wasH) || !slices.Equal(l[:cap(l)], wasL) {
				t.Fatalf("seed %d: %+v\n%+v\n%v", seed, s, h, l)
			}
		}
		n := s
		for _, e := range h.Events {
			kept := whole(n)
			m, replies := Next(n, e)
			if !reflect.DeepEqual(whole(n), kept) || !slices.Equal(replies, e.Replies) {
				t.Fatalf("seed %d: %+v", seed, e)
			}
			unchanged()
			scribble(replies, done(9, api.Reply{Badge: 9}))
			again, twice := Next(n, e)
			if !model.Same(m, again) || !slices.Equal(twice, e.Replies) {
				t.Fatalf("seed %d: %+v", seed, e)
			}
			unchanged()
			n = m
		}
		for range 2 {
			if m, e := Check(s, h); e != api.OK || !model.Same(m, n) {
				t.Fatal(seed, e)
			}
			unchanged()
			order := Order(h)
			unchanged()
			if !slices.Equal(order, l) || !Respects(h, l) {
				t.Fatal(seed, order)
			}
			scribble(order, -9)
			unchanged()
		}
		for at := range h.Events {
			x := roomy(h)
			x.Events[at].Replies = nil
			kept := whole(x)
			Check(s, x)
			Order(x)
			if !reflect.DeepEqual(whole(x), kept) {
				t.Fatal(seed, at)
			}
			unchanged()
		}
	}
}

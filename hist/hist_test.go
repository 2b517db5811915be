package hist

import (
	"math"
	"slices"
	"testing"

	"garrison/api"
)

// good are histories that may be, at the edges of what the chapter says.
func good() []api.History {
	most := api.History{}
	for core := range mostCores {
		most.Spans = append(most.Spans, was(core, 1, 1))
		most.Events = append(most.Events, event(core%4, core, core+1, core%3))
	}
	for core := range mostCores {
		most.Spans = append(most.Spans, is(mostCores-1-core, 2))
	}
	spans := []api.History{
		{}, {Spans: []api.Span{}, Events: []api.Event{}},
		of(is(0, 1)), of(is(63, 1)), of(is(0, math.MaxInt)), of(was(0, 1, 1)), of(was(63, 1, 2)), of(was(5, 7, math.MaxInt)), of(was(5, math.MaxInt, math.MaxInt)),
		of(api.Span{Start: 1, End: 1}), of(api.Span{Start: 1}),
		of(is(0, 1), is(1, 1)), of(is(1, 1), is(0, 1)), of(is(0, 1), is(63, 2)), of(was(0, 1, 9), is(1, 1)), of(is(0, 1), was(1, 1, 1), was(1, 2, 2)),
		of(was(0, 1, 1), is(0, 2)), of(was(0, 1, 3), is(0, 4)), of(was(0, 1, 3), was(0, 4, 4), was(0, 5, 8), is(0, 9)),
		of(was(0, 1, 3), is(1, 2), is(0, 4)), of(was(0, 2, 9), was(1, 3, 4), was(1, 5, 6), is(2, 9), is(0, 10)), of(is(63, 4), was(62, 4, 4), is(0, 4)),
		of(was(0, 1, math.MaxInt-1), is(0, math.MaxInt)), of(was(0, 1, math.MaxInt), is(1, math.MaxInt)), of(was(1, 1<<32, 1<<32+1), is(1, 1<<33)),
	}
	events := []api.History{
		by(event(0, 0, 1, 0)), by(event(3, 63, 1, 3)), by(event(1, 5, math.MaxInt, 1)), by(event(0, 0, 1, 0), event(0, 0, 2, 0)),
		by(event(3, 1, 1, 2), event(2, 1, 5, 0), event(1, 1, 6, 1), event(0, 63, 1<<40, 0)), by(event(0, 0, math.MaxInt-1, 1), event(0, 0, math.MaxInt, 1)),
		by(api.Event{Stamp: 1, Replies: []api.Done{}}), by(api.Event{Stamp: 1, Replies: []api.Done{{Core: -1}, {Core: math.MaxInt}, {Core: 64}, {Core: -1}}}),
	}
	all := slices.Concat(spans, events, []api.History{most})
	for i, h := range spans {
		all = append(all, both(h, events[i%len(events)]))
	}
	return all
}

// badSpans are lists of spans that may not be: each breaks one rule.
func badSpans() [][]api.Span {
	all := [][]api.Span{
		// cores
		{is(-1, 1)}, {is(64, 1)}, {is(65, 1)}, {is(-64, 1)}, {was(64, 1, 1)}, {was(-1, 1, 3)}, {is(0, 1), is(64, 1)}, {is(-1, 1), is(0, 1)}, {is(0, 1), is(64, 2), is(1, 3)},
		// starts
		{is(0, 0)}, {is(0, -1)}, {was(0, 0, 1)}, {was(0, 0, 0)}, {was(0, -1, 1)}, {is(0, 2), is(1, 1)}, {is(0, 9), is(1, 8)}, {is(0, 3), is(1, 4), is(2, 3)}, {is(0, 1), is(1, 0)},
		{was(0, 5, 6), was(1, 4, 9)}, {is(0, math.MaxInt), is(1, math.MaxInt-1)}, {is(0, math.MaxInt), is(1, 1)},
		// ends
		{was(0, 2, 1)}, {was(0, 9, 8)}, {was(0, 9, 1)}, {was(0, 1, -1)}, {was(0, 1, math.MinInt)}, {was(0, math.MaxInt, math.MaxInt-1)}, {is(0, 1), was(1, 4, 3), is(2, 4)}, {is(0, 1), was(1, 4, 3)},
		{was(0, 1, -5), is(0, 2)},
		// a core's span behind another one of that core
		{was(0, 1, 3), is(0, 3)}, {was(0, 1, 3), is(0, 2)}, {was(0, 1, 3), is(0, 1)}, {was(0, 3, 3), is(0, 3)}, {was(0, 1, 3), was(0, 3, 3)}, {was(0, 1, 3), was(0, 2, 9)},
		{is(0, 1), is(0, 2)}, {is(0, 1), is(0, 1)}, {is(0, 1), was(0, 2, 2)}, {is(63, 1), is(63, 1<<40)}, {is(0, 1), is(1, 2), is(0, 3)},
		{was(63, 1, 9), is(1, 2), is(2, 3), is(63, 9)}, {was(0, 1, 1), was(0, 2, 4), is(0, 4)}, {was(0, 1, 8), is(1, 2), was(2, 3, 4), is(0, 5)}, {is(0, 1), was(1, 2, 3), is(1, 4), is(0, 5)},
		{is(0, 2), was(0, 3, 4), is(0, 5)}, {was(0, 1, math.MaxInt), is(0, math.MaxInt)},
	}
	// an open one with a reply: each field alone
	for _, r := range []api.Reply{{Code: 1}, {Code: -1}, {Value: 1}, {Value: math.MinInt64}, {Badge: 1}, {Badge: -1}, {Cap: true}, says(4)} {
		s := is(1, 2)
		s.Reply = r
		all = append(all, []api.Span{s}, []api.Span{is(0, 1), s}, []api.Span{s, is(2, 2)}, []api.Span{was(1, 1, 1), s})
	}
	for _, n := range ends {
		if n < 0 || n > mostCores {
			all = append(all, []api.Span{is(n, 1)}, []api.Span{was(n, 1, 1)}, []api.Span{is(0, 1), is(n, 1)})
		}
		if n < 1 {
			all = append(all, []api.Span{is(0, n)}, []api.Span{was(0, n, n)}, []api.Span{was(0, n, 1)}, []api.Span{was(0, 1, n)}, []api.Span{is(0, 1), is(1, n)})
		}
	}
	return all
}

// badEvents are lists of events that may not be: each breaks one rule.
func badEvents() [][]api.Event {
	one := event(1, 1, 1, 2)
	all := [][]api.Event{
		{event(-1, 0, 1, 0)}, {event(4, 0, 1, 0)}, {event(5, 0, 1, 1)}, {one, event(4, 0, 2, 0)}, {event(-1, 0, 1, 0), event(0, 0, 2, 0)},
		{event(0, -1, 1, 0)}, {event(0, 64, 1, 0)}, {event(3, 65, 1, 1)}, {one, event(0, 64, 2, 0)}, {event(0, -1, 1, 0), event(0, 0, 2, 0)}, {one, event(0, -1, 2, 0), event(0, 0, 3, 0)},
		{event(0, 0, 0, 0)}, {event(0, 0, -1, 1)}, {event(0, 0, 0, 0), one}, {event(0, 0, -1, 0), event(0, 0, 0, 0)},
		{one, event(1, 1, 1, 2)}, {one, event(0, 0, 1, 0)}, {one, event(0, 0, 0, 0)}, {event(0, 0, 9, 0), event(0, 0, 8, 0)}, {event(0, 0, 9, 0), event(0, 0, 1, 0)},
		{one, event(0, 0, 2, 0), event(0, 0, 2, 0)}, {one, event(0, 0, 3, 0), event(0, 0, 2, 0)}, {one, event(0, 0, math.MaxInt, 0), event(0, 0, math.MaxInt, 0)},
		{event(0, 0, math.MaxInt, 0), event(0, 0, math.MinInt, 0)},
	}
	for _, n := range ends {
		if n < 0 || n > mostCores {
			all = append(all, []api.Event{event(n, 0, 1, 0)}, []api.Event{event(0, n, 1, 0)}, []api.Event{one, event(n, 0, 2, 0)}, []api.Event{one, event(0, n, 2, 0)})
		}
		if n < 1 {
			all = append(all, []api.Event{event(0, 0, n, 0)}, []api.Event{one, event(0, 0, n, 1)})
		}
	}
	return all
}

// bad are histories that may not be: of spans, of events, of one with the others as they may be, and of both.
func bad() []api.History {
	var all []api.History
	spans, events := badSpans(), badEvents()
	for i, l := range spans {
		all = append(all, of(l...), both(of(l...), by(event(0, 0, 1, 1), event(3, 63, 2, 0))), both(of(l...), by(events[i%len(events)]...)))
	}
	for _, l := range events {
		all = append(all, by(l...), both(of(was(0, 1, 1), is(0, 2)), by(l...)))
	}
	return all
}

// TestCheck: P18.1, each edge alone; spans and events have nothing to do with one another.
func TestCheck(t *testing.T) {
	for _, h := range good() {
		if e := Check(h); e != api.OK || !may(h) {
			t.Error("refused", h, e)
		}
	}
	for _, h := range bad() {
		if e := Check(h); e != 180 || may(h) {
			t.Error("taken", h, e)
		}
	}
}

// spans are all with two cores, and small times that may be and that may not.
func spans() []api.Span {
	var all []api.Span
	for core := range 2 {
		for start := range 4 {
			for end := range 5 {
				s := api.Span{Core: core, Start: start, End: end}
				all = append(all, s)
				s.Reply.Value = 1
				all = append(all, s)
			}
		}
	}
	return all
}

// TestCheckSpans: P18.1, of all lists of up to three spans of two cores, with small times.
func TestCheckSpans(t *testing.T) {
	taken := 0
	one := func(l ...api.Span) {
		e := Check(of(l...))
		if e != checked(of(l...)) {
			t.Fatal(l, e)
		}
		if e == api.OK {
			taken++
		}
	}
	one()
	all := spans()
	for _, a := range all {
		one(a)
		for _, b := range all {
			one(a, b)
			for _, c := range all {
				one(a, b, c)
			}
		}
	}
	if taken < 1000 {
		t.Fatal("too few may be:", taken)
	}
}

// TestCheckEvents: P18.1, of all lists of up to two events, with kinds, cores and stamps at the edges.
func TestCheckEvents(t *testing.T) {
	var all []api.Event
	for _, kind := range []int{-1, 0, 3, 4} {
		for _, core := range []int{-1, 0, 63, 64} {
			for stamp := -1; stamp < 4; stamp++ {
				all = append(all, event(kind, core, stamp, (stamp+1)%3))
			}
		}
	}
	for _, a := range all {
		if Check(by(a)) != checked(by(a)) {
			t.Fatal(a)
		}
		for _, b := range all {
			if Check(by(a, b)) != checked(by(a, b)) {
				t.Fatal(a, b)
			}
		}
	}
}

// TestCheckCores: P18.1, of each core: what it does has no part in what others may.
func TestCheckCores(t *testing.T) {
	for a := range mostCores {
		for b := range mostCores {
			want := api.OK
			if a == b {
				want = 180
			}
			for _, h := range []api.History{of(is(a, 1), is(b, 1)), of(was(a, 1, 5), is(b, 5)), of(was(a, 1, 5), was(b, 4, 4))} {
				if e := Check(h); e != want {
					t.Fatal(h, e)
				}
			}
		}
	}
}

// unlike are histories of which no two are the same: one, and each of its parts another.
func unlike() []api.History {
	base := both(of(was(0, 1, 2), was(1, 1, 4), is(0, 5)), by(event(0, 0, 2, 2), event(3, 1, 4, 0), event(1, 0, 5, 1)))
	all := []api.History{base, {}, of(base.Spans...), by(base.Events...)}
	all = append(all, both(of(base.Spans[:2]...), base), both(of(base.Spans[1:]...), base), both(base, by(base.Events[:2]...)), both(base, by(base.Events[1:]...)))
	all = append(all, both(of(append(deep(base).Spans, is(1, 5))...), base), both(base, by(append(deep(base).Events, event(0, 0, 6, 0))...)))
	all = append(all, both(of(base.Spans[1], base.Spans[0], base.Spans[2]), base), both(base, by(base.Events[1], base.Events[0], base.Events[2])))
	other := func(do func(h *api.History)) {
		h := deep(base)
		do(&h)
		all = append(all, h)
	}
	for at := range 3 {
		for _, n := range []int{1, -1, 1 << 32, math.MinInt} {
			for _, call := range callFields(n) {
				other(func(h *api.History) { call(&h.Spans[at].Call) })
				other(func(h *api.History) { call(&h.Events[at].Call) })
			}
			for _, reply := range replyFields(n) {
				other(func(h *api.History) { reply(&h.Spans[at].Reply) })
			}
			other(func(h *api.History) { h.Spans[at].Core += n })
			other(func(h *api.History) { h.Spans[at].Start += n })
			other(func(h *api.History) { h.Spans[at].End += n })
			other(func(h *api.History) { h.Events[at].Kind += n })
			other(func(h *api.History) { h.Events[at].Core += n })
			other(func(h *api.History) { h.Events[at].Stamp += n })
		}
		other(func(h *api.History) { h.Spans[at].Reply.Cap = !h.Spans[at].Reply.Cap })
		other(func(h *api.History) { h.Events[at].Replies = append(h.Events[at].Replies, api.Done{}) })
	}
	for _, at := range [][2]int{{0, 0}, {0, 1}, {2, 0}} {
		reply := func(h *api.History) *api.Done { return &h.Events[at[0]].Replies[at[1]] }
		for _, n := range []int{1, -1, 1 << 32, math.MinInt} {
			other(func(h *api.History) { reply(h).Core += n })
			for _, field := range replyFields(n) {
				other(func(h *api.History) { field(&reply(h).Reply) })
			}
		}
		other(func(h *api.History) { reply(h).Reply.Cap = !reply(h).Reply.Cap })
	}
	other(func(h *api.History) { h.Events[0].Replies = h.Events[0].Replies[:1] })
	other(func(h *api.History) { h.Events[0].Replies = h.Events[0].Replies[1:] })
	other(func(h *api.History) { h.Events[2].Replies = nil })
	other(func(h *api.History) { slices.Reverse(h.Events[0].Replies) })
	return all
}

// callFields and replyFields make each field another one, by n.
func callFields(n int) []func(*api.Call) {
	return []func(*api.Call){
		func(c *api.Call) { c.Kind += n }, func(c *api.Call) { c.A += uint64(n) }, func(c *api.Call) { c.B += uint64(n) }, func(c *api.Call) { c.Rights += n },
		func(c *api.Call) { c.Badge += n }, func(c *api.Call) { c.Type += n }, func(c *api.Call) { c.Size += n }, func(c *api.Call) { c.Value += int64(n) },
	}
}

func replyFields(n int) []func(*api.Reply) {
	return []func(*api.Reply){
		func(r *api.Reply) { r.Code += api.Errno(n) }, func(r *api.Reply) { r.Value += int64(n) }, func(r *api.Reply) { r.Badge += n },
	}
}

// TestSame: P18.1, of each pair of unlike ones, and of each with itself, in other memory.
func TestSame(t *testing.T) {
	all := unlike()
	for i, a := range all {
		for j, b := range all {
			if Same(a, b) != (i == j) || like(a, b) != (i == j) {
				t.Fatal(i, j, a, b)
			}
		}
		if !Same(a, deep(a)) || !Same(roomy(a), a) {
			t.Fatal(a)
		}
	}
	for _, h := range slices.Concat(good(), bad()) {
		if !Same(h, deep(h)) || !Same(deep(h), h) || Same(h, api.History{}) != like(h, api.History{}) {
			t.Fatal(h)
		}
	}
}

// TestSameNil: P18.1: nil and an empty list are the same, of spans, of events, of replies.
func TestSameNil(t *testing.T) {
	e := api.Event{Stamp: 1}
	f := api.Event{Stamp: 1, Replies: []api.Done{}}
	g := api.Event{Stamp: 1, Replies: []api.Done{{}}}
	if !Same(api.History{}, api.History{Spans: []api.Span{}, Events: []api.Event{}}) || !Same(api.History{Events: []api.Event{}}, api.History{Spans: []api.Span{}}) {
		t.Fatal("nil lists")
	}
	if !Same(by(e), by(f)) || !Same(by(f), by(e)) {
		t.Fatal("nil replies")
	}
	if Same(by(e), by(g)) || Same(by(g), by(f)) || Same(by(e), by()) || Same(of(api.Span{}), of()) || Same(of(api.Span{}), of(api.Span{}, api.Span{})) {
		t.Fatal("how many there are is told")
	}
}

// TestPending: P18.2, written out.
func TestPending(t *testing.T) {
	for _, c := range []struct {
		h    api.History
		core int
		at   int
		ok   bool
	}{
		{api.History{}, 0, 0, false},
		{by(event(0, 0, 1, 1)), 0, 0, false},
		{of(is(1, 1)), 0, 0, false},
		{of(is(0, 1)), 0, 0, true},
		{of(is(0, 1)), 1, 0, false},
		{of(was(0, 1, 1)), 0, 0, false},
		{of(was(0, 1, 1), is(0, 2)), 0, 1, true},
		{of(was(0, 1, 1), was(0, 2, 2)), 0, 0, false},
		{of(was(0, 1, 1), is(0, 2), is(1, 2), was(2, 2, 3), is(2, 4)), 0, 1, true},
		{of(was(0, 1, 1), is(0, 2), is(1, 2), was(2, 2, 3), is(2, 4)), 1, 2, true},
		{of(was(0, 1, 1), is(0, 2), is(1, 2), was(2, 2, 3), is(2, 4)), 2, 4, true},
		{of(was(0, 1, 1), is(0, 2), is(1, 2), was(2, 2, 3), is(2, 4)), 3, 0, false},
		{of(is(0, 1), is(1, 1), was(2, 1, 1)), 2, 0, false},
		{of(is(62, 1), is(63, 1)), 63, 1, true},
		{of(is(62, 1), is(63, 1)), 64, 0, false},
		{of(is(62, 1), is(63, 1)), -1, 0, false},
		// histories that may not be are answered by the same words
		{of(is(0, 1), was(0, 2, 2)), 0, 0, false},
		{of(is(0, 3), is(0, 2)), 0, 1, true},
		{of(was(0, 1, -1)), 0, 0, false},
		{of(is(1, 0), is(-1, 0)), -1, 1, true},
		{of(is(1, 0), is(64, -5)), 64, 1, true},
	} {
		if at, ok := Pending(c.h, c.core); at != c.at || ok != c.ok {
			t.Error(c.h, c.core, at, ok)
		}
	}
}

// TestPendingAll: P18.2, of all histories here, with each core, and numbers that are none.
func TestPendingAll(t *testing.T) {
	for _, h := range slices.Concat(good(), bad()) {
		d := deep(h)
		for _, core := range cores() {
			at, ok := Pending(h, core)
			if i, is := pends(h, core); at != i || ok != is || !like(h, d) {
				t.Fatal(h, core, at, ok)
			}
		}
	}
}

// TestAhead: P18.2, written out; then of all pairs of times.
func TestAhead(t *testing.T) {
	for _, c := range []struct {
		a, b api.Span
		want bool
	}{
		{was(0, 1, 3), is(1, 4), true},
		{was(0, 1, 3), is(0, 4), true},
		{was(0, 1, 3), is(1, 3), false},
		{was(0, 1, 3), is(1, 2), false},
		{was(0, 1, 3), was(1, 4, 4), true},
		{was(0, 1, 3), was(1, 3, 3), false},
		{was(1, 4, 4), was(0, 1, 3), false},
		{is(0, 1), is(1, 2), false},
		{is(0, 1), was(1, 2, 3), false},
		{was(0, 1, 1), was(0, 1, 1), false},
		{was(0, 1, 1), is(0, math.MaxInt), true},
		{was(0, 1, math.MaxInt), is(0, math.MaxInt), false},
		{was(0, 1, math.MaxInt-1), is(0, math.MaxInt), true},
		{api.Span{}, api.Span{}, false},
		{api.Span{}, is(0, 5), false},
		{was(0, 1, -1), is(0, 0), true},
		{was(0, 1, math.MinInt), is(0, math.MaxInt), true},
		{was(0, 1, math.MaxInt), is(0, math.MinInt), false},
	} {
		if got := Ahead(c.a, c.b); got != c.want {
			t.Error(c.a, c.b, got)
		}
	}
	for _, a := range append([]int{-1, 0, 1, 2, 3}, ends...) {
		for _, b := range append([]int{-1, 0, 1, 2, 3}, ends...) {
			if got := Ahead(was(0, 1, a), was(1, b, b)); got != (a != 0 && a < b) {
				t.Fatal(a, b, got)
			}
		}
	}
}

// cores are the numbers to try as a core.
func cores() []int {
	return slices.Concat([]int{-64, -2, -1, 0, 1, 2, 3, 5, 62, 63, 64, 65, 127, 128}, ends)
}

package hist

import (
	"math"
	"slices"
	"testing"

	"garrison/api"
)

// TestInvoke: P18.3, written out: each error, and which comes first.
func TestInvoke(t *testing.T) {
	two := of(was(0, 1, 3), is(1, 2)) // core 0 was answered at 3, core 1 has an open one, since 2
	over := of(was(0, 1, 9), was(1, 5, 6))
	for _, c := range []struct {
		h         api.History
		core, now int
		e         api.Errno
	}{
		{api.History{}, 0, 1, api.OK},
		{api.History{}, 63, 1, api.OK},
		{api.History{}, 63, math.MaxInt, api.OK},
		{api.History{}, 0, 0, api.ErrArg},
		{api.History{}, 0, -1, api.ErrArg},
		{api.History{}, -1, 1, api.ErrArg},
		{api.History{}, 64, 1, api.ErrArg},
		{api.History{}, math.MinInt, math.MinInt, api.ErrArg},
		{api.History{}, math.MaxInt, math.MaxInt, api.ErrArg},
		{by(event(0, 0, 9, 1)), 0, 1, api.OK}, // events have no part in it
		{two, 0, 4, api.OK},
		{two, 0, 3, api.ErrThere},
		{two, 0, 2, api.ErrThere},
		{two, 0, 1, api.ErrArg}, // both: the last span begins at 2
		{two, 1, 1, api.ErrArg},
		{two, 1, 2, api.ErrThere},
		{two, 1, 9, api.ErrThere},
		{two, 1, math.MaxInt, api.ErrThere},
		{two, 2, 1, api.ErrArg},
		{two, 2, 2, api.OK},
		{two, 63, 3, api.OK},
		{two, 64, 3, api.ErrArg},
		{two, -1, 3, api.ErrArg},
		{two, 1, 0, api.ErrArg},
		{over, 0, 5, api.ErrThere},
		{over, 0, 9, api.ErrThere},
		{over, 0, 10, api.OK},
		{over, 1, 6, api.ErrThere},
		{over, 1, 7, api.OK},
		{over, 2, 5, api.OK},
		{over, 2, 4, api.ErrArg},
		{over, 0, 4, api.ErrArg},
		{of(was(0, 1, math.MaxInt)), 0, math.MaxInt, api.ErrThere},
		{of(was(0, 1, math.MaxInt)), 1, math.MaxInt, api.OK},
		{of(was(0, 1, math.MaxInt-1)), 0, math.MaxInt, api.OK},
		{of(was(0, 1, 3), is(0, 3)), 1, 9, 180},
		{of(was(0, 1, 3), is(0, 3)), 64, 0, 180}, // all of them
		{by(event(4, 0, 1, 0)), 0, 1, 180},
		{both(of(is(1, 1)), by(event(0, 0, 0, 0))), 1, 1, 180},
	} {
		call := asks(c.now % 97)
		want := deep(c.h)
		if c.e == api.OK {
			want.Spans = append(want.Spans, api.Span{Core: c.core, Call: call, Start: c.now})
		}
		if h, e := Invoke(c.h, c.core, call, c.now); e != c.e || !like(h, want) {
			t.Error(c.h, c.core, c.now, h, e)
		}
	}
}

// TestAnswer: P18.3, written out: each error, and which comes first. When others were called or answered has no part in it.
func TestAnswer(t *testing.T) {
	many := of(was(0, 1, 3), is(1, 2), is(0, 4), was(2, 4, 4), is(2, 7), is(3, 8))
	for _, c := range []struct {
		h         api.History
		core, now int
		at        int // where the answer goes
		e         api.Errno
	}{
		{of(is(0, 1)), 0, 1, 0, api.OK},
		{of(is(0, 1)), 0, 2, 0, api.OK},
		{of(is(0, 1)), 0, math.MaxInt, 0, api.OK},
		{of(is(0, 1)), 0, 0, 0, api.ErrArg},
		{of(is(0, 1)), 0, -1, 0, api.ErrArg},
		{of(is(0, 1)), 0, math.MinInt, 0, api.ErrArg},
		{of(is(0, 1)), 1, 1, 0, api.ErrNone},
		{of(is(0, 1)), -1, 1, 0, api.ErrNone},
		{of(is(63, 1)), 63, 1, 0, api.OK},
		{of(is(63, 1)), 64, 1, 0, api.ErrNone},
		{of(was(0, 1, 1)), 0, 2, 0, api.ErrNone},
		{of(was(0, 1, 1)), 0, 0, 0, api.ErrNone}, // both
		{api.History{}, 0, 1, 0, api.ErrNone},
		{api.History{}, 0, 0, 0, api.ErrNone},
		{by(event(0, 0, 1, 1)), 0, 1, 0, api.ErrNone},
		{many, 0, 3, 0, api.ErrArg},
		{many, 0, 4, 2, api.OK},
		{many, 1, 1, 0, api.ErrArg},
		{many, 1, 2, 1, api.OK}, // the last span's Start is 8
		{many, 2, 6, 0, api.ErrArg},
		{many, 2, 7, 4, api.OK},
		{many, 3, 7, 0, api.ErrArg},
		{many, 3, 8, 5, api.OK},
		{many, 4, 8, 0, api.ErrNone},
		{of(is(0, math.MaxInt)), 0, math.MaxInt, 0, api.OK},
		{of(is(0, math.MaxInt)), 0, math.MaxInt - 1, 0, api.ErrArg},
		{of(is(0, 1), is(0, 2)), 0, 3, 0, 180},
		{of(is(0, 1), is(0, 2)), 1, 0, 0, 180}, // all of them
		{both(of(is(0, 1)), by(event(0, 0, 2, 0), event(0, 0, 2, 0))), 0, 3, 0, 180},
	} {
		for _, r := range []api.Reply{{}, says(c.at + 1), {Code: -1, Value: math.MinInt64, Badge: math.MaxInt}} {
			want := deep(c.h)
			if c.e == api.OK {
				want.Spans[c.at].End, want.Spans[c.at].Reply = c.now, r
			}
			if h, e := Answer(c.h, c.core, r, c.now); e != c.e || !like(h, want) {
				t.Error(c.h, c.core, c.now, h, e)
			}
		}
	}
}

// TestNote: P18.3, written out: each error. Spans have no part in it, nor has who is answered.
func TestNote(t *testing.T) {
	two := by(event(0, 0, 1, 1), event(3, 63, 5, 0))
	for _, c := range []struct {
		h api.History
		e api.Event
		x api.Errno
	}{
		{api.History{}, event(0, 0, 1, 0), api.OK},
		{api.History{}, event(3, 63, 1, 3), api.OK},
		{api.History{}, event(1, 1, math.MaxInt, 1), api.OK},
		{api.History{}, event(2, 1, 7, 1), api.OK},
		{api.History{}, api.Event{Stamp: 1, Replies: []api.Done{{Core: -1}, {Core: 64}, {Core: -1}}}, api.OK},
		{api.History{}, event(-1, 0, 1, 0), api.ErrArg},
		{api.History{}, event(4, 0, 1, 0), api.ErrArg},
		{api.History{}, event(0, -1, 1, 0), api.ErrArg},
		{api.History{}, event(0, 64, 1, 0), api.ErrArg},
		{api.History{}, event(0, 0, 0, 0), api.ErrArg},
		{api.History{}, event(0, 0, -1, 0), api.ErrArg},
		{api.History{}, api.Event{}, api.ErrArg},
		{api.History{}, event(math.MinInt, math.MaxInt, math.MinInt, 2), api.ErrArg},
		{of(is(0, 9)), event(0, 0, 1, 0), api.OK},
		{two, event(1, 5, 6, 2), api.OK},
		{two, event(0, 0, 5, 0), api.ErrArg},
		{two, event(0, 0, 4, 0), api.ErrArg},
		{two, event(0, 0, 1, 0), api.ErrArg},
		{two, event(0, 0, math.MinInt, 0), api.ErrArg},
		{two, event(4, 0, 6, 0), api.ErrArg},
		{two, event(0, 64, 6, 0), api.ErrArg},
		{by(event(0, 0, math.MaxInt, 0)), event(0, 0, math.MaxInt, 0), api.ErrArg},
		{by(event(0, 0, math.MaxInt, 0)), event(0, 0, math.MinInt, 0), api.ErrArg},
		{by(event(0, 0, math.MaxInt-1, 0)), event(0, 0, math.MaxInt, 0), api.OK},
		{by(event(0, 0, 0, 0)), event(0, 0, 1, 0), 180},
		{by(event(0, 0, 0, 0)), event(4, 64, 0, 0), 180}, // all of them
		{both(of(is(0, 0)), two), event(0, 0, 6, 0), 180},
	} {
		want := deep(c.h)
		if c.x == api.OK {
			want.Events = append(want.Events, c.e)
		}
		if h, x := Note(c.h, c.e); x != c.x || !like(h, want) {
			t.Error(c.h, c.e, h, x)
		}
	}
}

// times are those to try with a history: about each that it has, at the edges, and at the ends of int.
func times(h api.History) []int {
	l := slices.Concat([]int{-1, 0, 1, 2, 3}, ends)
	for _, s := range h.Spans[:min(6, len(h.Spans))] {
		l = append(l, s.Start-1, s.Start, s.Start+1, s.End-1, s.End, s.End+1)
	}
	for _, e := range h.Events[:min(6, len(h.Events))] {
		l = append(l, e.Stamp-1, e.Stamp, e.Stamp+1)
	}
	slices.Sort(l)
	return slices.Compact(l)
}

// trials are the calls with each of these cores, at each of these times.
func trials(cores, times []int) []trial {
	var l []trial
	for _, core := range cores {
		for _, now := range times {
			l = append(l, invokes(core, now), answers(core, now), notes(event((now+4)&3, core, now, now&1)))
		}
	}
	for _, now := range times {
		l = append(l, notes(event(-1, 0, now, 1)), notes(event(4, 63, now, 0)), notes(event(now, now, now, 2)))
	}
	return l
}

// try has a call done, and holds it against what the document says of it: what is answered, and that h is as it was.
func try(t *testing.T, c trial, h api.History) (api.History, api.Errno) {
	t.Helper()
	d := deep(h)
	got, e := c.got(h)
	want, x := c.want(d)
	if e != x || !like(got, want) || !like(h, d) {
		t.Fatal(c.name, d, "answers", got, e, "not", want, x, "behind it", h)
	}
	if e == 0 && Check(got) != 0 || e != 0 && !Same(got, h) {
		t.Fatal(c.name, d, "answers", got, e)
	}
	return got, e
}

// TestCalls: P18.3, of all histories here, with cores and times at the edges and at the ends of int; P18.4: what is answered with OK may be.
func TestCalls(t *testing.T) {
	done := map[api.Errno]int{}
	for _, h := range slices.Concat(good(), bad()) {
		for _, c := range trials([]int{-1, 0, 1, 2, 63, 64, math.MinInt, math.MaxInt}, times(h)) {
			_, e := try(t, c, h)
			done[e]++
		}
	}
	for _, e := range []api.Errno{0, api.ErrArg, api.ErrNone, api.ErrThere, api.ErrHist} {
		if done[e] < 100 {
			t.Fatal("too few are answered", e, done)
		}
	}
}

// TestCallsSmall: P18.3, P18.4, of all lists of up to two spans of two cores with small times, which may be or may not.
func TestCallsSmall(t *testing.T) {
	var calls []trial
	for core := -1; core < 3; core++ {
		for now := -1; now < 6; now++ {
			calls = append(calls, invokes(core, now), answers(core, now))
		}
	}
	all := spans()
	for _, a := range all {
		for _, b := range all {
			for _, c := range calls {
				try(t, c, of(a, b))
			}
		}
		for _, c := range calls {
			try(t, c, of(a))
		}
	}
}

// room is how much a list has behind it.
const room = 3

func withRoom[T any](l []T, filling T) []T {
	all := append(make([]T, 0, len(l)+room), l...)
	return append(all, slices.Repeat([]T{filling}, room)...)[:len(l)]
}

var (
	fillSpan = api.Span{Core: 99, Start: 99, End: 99}
	fillDone = api.Done{Core: 99, Reply: api.Reply{Value: 99}}
)

func fillEvent() api.Event {
	return api.Event{Kind: 99, Core: 99, Stamp: 99, Replies: []api.Done{fillDone}}
}

// roomy is h, with filled room behind each of its lists.
func roomy(h api.History) api.History {
	d := api.History{Spans: withRoom(h.Spans, fillSpan), Events: withRoom(h.Events, fillEvent())}
	for i, e := range d.Events {
		d.Events[i].Replies = withRoom(e.Replies, fillDone)
	}
	return d
}

// whole is h with the room of its lists.
func whole(h api.History) api.History {
	w := api.History{Spans: slices.Clone(h.Spans[:cap(h.Spans)]), Events: slices.Clone(h.Events[:cap(h.Events)])}
	for i, e := range w.Events {
		w.Events[i].Replies = slices.Clone(e.Replies[:cap(e.Replies)])
	}
	return w
}

// untouched says whether what roomy made of h is still so, its room too.
func untouched(r, h api.History) bool { return like(r, h) && like(whole(r), whole(roomy(h))) }

// spoil writes to all lists of h, and to their room.
func spoil(h api.History) {
	events := h.Events[:cap(h.Events)]
	for i, e := range events {
		l := e.Replies[:cap(e.Replies)]
		for j := range l {
			l[j] = api.Done{Core: -7}
		}
		events[i] = api.Event{Kind: -7}
	}
	l := h.Spans[:cap(h.Spans)]
	for i := range l {
		l[i] = api.Span{Core: -7}
	}
}

// roomTrials are calls that go well with some of the histories here, and such as are refused.
func roomTrials() []trial {
	return trials([]int{0, 1, 5, 64}, []int{0, 1, 3, 4, 9, 10, 1 << 40, math.MaxInt})
}

// TestRoom: rule 3: what is handed in is as it was behind each call, its room too, and answers share no memory with it, or with one another.
func TestRoom(t *testing.T) {
	for i, h := range slices.Concat(good(), bad()) {
		for j, c := range roomTrials() {
			if i > 60 && (i+j)%7 != 0 { // of the many that are refused, some do
				continue
			}
			r := roomy(h)
			f, x := c.got(r)
			if !untouched(r, h) {
				t.Fatal(c.name, "changed", h)
			}
			g, y := c.got(r)
			if x != y || !like(f, g) {
				t.Fatal(c.name, "answers", x, y, h)
			}
			d := deep(g)
			spoil(f)
			if !untouched(r, h) || !like(g, d) {
				t.Fatal(c.name, "shares memory", h)
			}
			spoil(r)
			if !like(g, d) {
				t.Fatal(c.name, "keeps what it was handed", h)
			}
		}
	}
}

// TestNoteOwn: rule 3: the replies that are handed in with an event are not kept, nor is their room written to.
func TestNoteOwn(t *testing.T) {
	e := event(0, 1, 4, 2)
	r := roomy(by(e))
	one, _ := Note(of(is(0, 1)), r.Events[0])
	two, _ := Note(one, r.Events[0])
	refused, _ := Note(by(event(0, 0, 0, 0)), r.Events[0])
	if !untouched(r, by(e)) {
		t.Fatal(r)
	}
	spoil(r)
	want := both(of(is(0, 1)), by(e))
	if !like(one, want) || !like(two, want) || !like(refused, by(event(0, 0, 0, 0))) {
		t.Fatal(one, two, refused)
	}
	spoil(one)
	if !like(two, want) {
		t.Fatal(two)
	}
}

// TestLookers: rule 3: who only looks changes nothing, room neither.
func TestLookers(t *testing.T) {
	for _, h := range slices.Concat(good(), bad()) {
		r := roomy(h)
		Check(r)
		Same(r, h)
		Same(h, r)
		for _, core := range cores() {
			Pending(r, core)
		}
		if !untouched(r, h) {
			t.Fatal(h)
		}
	}
}

// TestTwoOnOne: two calls, each on the same history, and what follows on what each of them answered: none is seen in another.
func TestTwoOnOne(t *testing.T) {
	calls := []trial{invokes(0, 10), invokes(2, 10), invokes(2, 11), invokes(3, 10), answers(1, 10), answers(1, 11), answers(4, 12), answers(0, 12),
		notes(event(0, 1, 10, 2)), notes(event(3, 2, 11, 0)), notes(event(1, 1, 12, 1))}
	base := both(of(was(0, 1, 3), is(1, 2), is(4, 5)), by(event(0, 0, 2, 1), event(2, 1, 4, 2)))
	// With lists that have grown, there may be room behind them.
	for now := 6; now < 10; now++ {
		base, _ = Note(base, event(0, 0, now, 1))
		base, _ = Invoke(base, now+10, asks(now), now)
	}
	start := deep(base)
	for _, a := range calls {
		for _, b := range calls {
			f, _ := a.got(base)
			g, _ := b.got(base)
			wantF, _ := a.want(start)
			wantG, _ := b.want(start)
			for _, c := range calls {
				ff, x := c.got(f)
				gg, y := c.got(g)
				wantFF, wantX := c.want(wantF)
				wantGG, wantY := c.want(wantG)
				if x != wantX || y != wantY || !like(ff, wantFF) || !like(gg, wantGG) {
					t.Fatal(a.name, b.name, c.name, ff, gg)
				}
			}
			if !like(base, start) || !like(f, wantF) || !like(g, wantG) {
				t.Fatal(a.name, b.name, base, f, g)
			}
		}
	}
}

// TestExample: the chapter's.
func TestExample(t *testing.T) {
	h, e := Invoke(api.History{}, 0, asks(1), 1)
	if at, ok := Pending(h, 0); e != api.OK || at != 0 || !ok {
		t.Fatal(h, e)
	}
	h, e = Answer(h, 0, says(1), 3)
	if at, ok := Pending(h, 0); e != api.OK || at != 0 || ok {
		t.Fatal(h, e)
	}
	d := deep(h)
	if f, e := Invoke(h, 0, asks(2), 3); e != api.ErrThere || !like(f, d) {
		t.Fatal(f, e)
	}
	h, e = Invoke(h, 0, asks(2), 4)
	want := of(api.Span{Call: asks(1), Start: 1, End: 3, Reply: says(1)}, api.Span{Call: asks(2), Start: 4})
	if e != api.OK || !like(h, want) || Check(h) != api.OK || !Ahead(h.Spans[0], h.Spans[1]) {
		t.Fatal(h, e)
	}
}

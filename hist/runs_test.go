package hist

import (
	"testing"

	"garrison/api"
)

// dice are numbers that are the same each time.
type dice uint64

// next is one below n.
func (d *dice) next(n int) int {
	*d = *d*6364136223846793005 + 1442695040888963407
	return int(uint64(*d) >> 33 % uint64(n))
}

// world is a second telling of the chapter: each core's spans lie in a list of its own, with the place where they stand in the history.
type world struct {
	spans  map[int][]api.Span
	places map[int][]int
	many   int
	late   int // the Start of the last span
	events []api.Event
}

func newWorld() *world { return &world{spans: map[int][]api.Span{}, places: map[int][]int{}} }

// latest is the core's last span.
func (w *world) latest(core int) *api.Span {
	if l := w.spans[core]; len(l) > 0 {
		return &l[len(l)-1]
	}
	return nil
}

func (w *world) invoke(core int, c api.Call, now int) api.Errno {
	if core < 0 || core > 63 || now < 1 || now < w.late {
		return api.ErrArg
	}
	if s := w.latest(core); s != nil && (s.End == 0 || now <= s.End) {
		return api.ErrThere
	}
	w.spans[core] = append(w.spans[core], api.Span{Core: core, Call: c, Start: now})
	w.places[core] = append(w.places[core], w.many)
	w.many, w.late = w.many+1, now
	return api.OK
}

func (w *world) answer(core int, r api.Reply, now int) api.Errno {
	s := w.latest(core)
	if s == nil || s.End != 0 {
		return api.ErrNone
	}
	if now < s.Start {
		return api.ErrArg
	}
	s.End, s.Reply = now, r
	return api.OK
}

func (w *world) note(e api.Event) api.Errno {
	if e.Kind < 0 || e.Kind > 3 || e.Core < 0 || e.Core > 63 || e.Stamp < 1 {
		return api.ErrArg
	}
	if n := len(w.events); n > 0 && w.events[n-1].Stamp >= e.Stamp {
		return api.ErrArg
	}
	w.events = append(w.events, e)
	return api.OK
}

// history is all of it, each span at its place.
func (w *world) history() api.History {
	h := api.History{Spans: make([]api.Span, w.many), Events: w.events}
	for core, l := range w.spans {
		for i, s := range l {
			h.Spans[w.places[core][i]] = s
		}
	}
	return h
}

// step does one call of a kind that the dice say, on both; the clock goes on by now and then, and backwards seldom.
func (w *world) step(d *dice, h api.History, cores int, now *int) (api.History, api.Errno, api.Errno) {
	*now += d.next(3) - d.next(20)/19
	core, at := d.next(cores), *now
	switch d.next(40) {
	case 0:
		core = -1 - core
	case 1:
		core += 64
	case 2:
		at -= d.next(5)
	}
	switch d.next(3) {
	case 0:
		c := asks(d.next(50))
		f, e := Invoke(h, core, c, at)
		return f, e, w.invoke(core, c, at)
	case 1:
		r := says(d.next(50))
		f, e := Answer(h, core, r, at)
		return f, e, w.answer(core, r, at)
	}
	ev := event(d.next(4)-d.next(30)/29, core, at, d.next(3))
	f, e := Note(h, ev)
	return f, e, w.note(ev)
}

// run does steps, and asks behind each whether all is as P18.4 says.
func run(t *testing.T, seed uint64, cores, steps int) map[api.Errno]int {
	t.Helper()
	d, w, now := dice(seed), newWorld(), 0
	h, counts := api.History{}, map[api.Errno]int{}
	for i := range steps {
		f, e, want := w.step(&d, h, cores, &now)
		if e != want || Check(f) != api.OK {
			t.Fatal(seed, i, "answers", e, "not", want)
		}
		if e != api.OK && !Same(f, h) {
			t.Fatal(seed, i, "an error, and another history", e)
		}
		if i%16 == 0 || i > steps-16 {
			if !like(f, w.history()) || !may(f) {
				t.Fatal(seed, i, f)
			}
			oneBehindTheOther(t, f, w, cores)
		}
		h = f
		counts[e]++
	}
	return counts
}

// oneBehindTheOther: P18.4: each core's spans are, and all but its last one are over; Pending tells of that one.
func oneBehindTheOther(t *testing.T, h api.History, w *world, cores int) {
	t.Helper()
	for core := range cores {
		l := w.spans[core]
		for i, s := range l {
			for _, v := range l[i+1:] {
				if !Ahead(s, v) || Ahead(v, s) {
					t.Fatal(core, s, v)
				}
			}
		}
		at, ok := Pending(h, core)
		s := w.latest(core)
		if ok != (s != nil && s.End == 0) || ok && at != w.places[core][len(l)-1] || !ok && at != 0 {
			t.Fatal(core, at, ok)
		}
	}
}

// TestRuns: P18.3, P18.4, of long runs of calls, answers and notes by several cores.
func TestRuns(t *testing.T) {
	all := map[api.Errno]int{}
	for seed := range 40 {
		for e, n := range run(t, uint64(seed), []int{1, 2, 3, 8, 64}[seed%5], 600) {
			all[e] += n
		}
	}
	for e, n := range run(t, 99, 16, 3000) {
		all[e] += n
	}
	for _, e := range []api.Errno{api.OK, api.ErrArg, api.ErrThere, api.ErrNone} {
		if all[e] < 200 {
			t.Fatal("too few are answered", e, all)
		}
	}
}

// TestOrders: P18.4, of all orders of up to seven calls and answers of two cores, the clock of which goes on by 0 or 1 at each.
func TestOrders(t *testing.T) {
	ways := 0
	var onward func(h api.History, now, left int)
	onward = func(h api.History, now, left int) {
		if Check(h) != api.OK || !may(h) {
			t.Fatal(h)
		}
		ways++
		if left == 0 {
			return
		}
		for _, at := range []int{now, now + 1} {
			for core := range 2 {
				if f, e := Invoke(h, core, api.Call{}, at); e == api.OK {
					onward(f, at, left-1)
				}
				if f, e := Answer(h, core, api.Reply{Value: 1}, at); e == api.OK {
					onward(f, at, left-1)
				}
			}
		}
	}
	onward(api.History{}, 1, 7)
	if ways < 1000 {
		t.Fatal("too few:", ways)
	}
}

package lin

import (
	"math"
	"reflect"
	"slices"
	"testing"

	"garrison/addr"
	"garrison/api"
	"garrison/hist"
	"garrison/model"
)

// ends are numbers at the ends of int, and such as are small again if bits of them are lost.
var ends = []int{math.MinInt, math.MinInt + 1, math.MaxInt, math.MaxInt - 1, 1 << 31, -1 << 31, 1 << 32, 1<<32 + 1, 1<<32 + 2, -1 << 32, 1<<62 + 1, -1 << 62}

// to is an address of these slots, with guards 0.
func to(l ...int) uint64 {
	var steps []api.Step
	for _, i := range l {
		steps = append(steps, api.Step{Index: i})
	}
	w, _ := addr.Put(steps...)
	return w
}

// The calls, in short forms.

func look(slot int) api.Call { return api.Call{Kind: api.CaLook, A: to(slot)} }

func read(slot int) api.Call { return api.Call{Kind: api.CaRead, A: to(slot)} }

func write(slot int, v int64) api.Call {
	return api.Call{Kind: api.CaWrite, A: to(slot), Value: v}
}

func mint(a, b int) api.Call {
	return api.Call{Kind: api.CaMint, A: to(a), B: to(b), Rights: api.All}
}

func retype(b, kind int) api.Call {
	return api.Call{Kind: api.CaRetype, A: to(0), B: to(b), Type: kind}
}

func erase(slot int) api.Call { return api.Call{Kind: api.CaDelete, A: to(slot)} }

func revoke(slot int) api.Call { return api.Call{Kind: api.CaRevoke, A: to(slot)} }

func send(slot int, v int64) api.Call {
	return api.Call{Kind: api.CaSend, A: to(slot), Value: v}
}

func recv(slot int) api.Call { return api.Call{Kind: api.CaRecv, A: to(slot)} }

// The parts of histories, in short forms.

func over(core int, c api.Call, start, end int, r api.Reply) api.Span {
	return api.Span{Core: core, Call: c, Start: start, End: end, Reply: r}
}

func begun(core int, c api.Call, start int) api.Span { return over(core, c, start, 0, api.Reply{}) }

func event(kind, core int, c api.Call, stamp int, l ...api.Done) api.Event {
	return api.Event{Kind: kind, Core: core, Call: c, Stamp: stamp, Replies: l}
}

func done(core int, r api.Reply) api.Done { return api.Done{Core: core, Reply: r} }

// ok is what a core is answered if nothing else is to be said.
func ok(core int) api.Done { return done(core, api.Reply{}) }

func code(e api.Errno) api.Reply { return api.Reply{Code: e} }

func spans(l ...api.Span) []api.Span { return l }

func events(l ...api.Event) []api.Event { return l }

func history(s []api.Span, e []api.Event) api.History { return api.History{Spans: s, Events: e} }

// state is one of two cores of one domain: the slot 0 has memory, the slot 1 an endpoint.
func state(t *testing.T, l ...api.Event) api.State {
	t.Helper()
	s, e := model.New(2, 9, 1024, 1)
	if e != api.OK {
		t.Fatal(e)
	}
	return toldAll(s, l)
}

// checks has Check answer that state and that error, here and in the chapter's second telling.
func checks(t *testing.T, s api.State, h api.History, want api.State, e api.Errno) {
	t.Helper()
	if n, x := Check(s, h); x != e || !model.Same(n, want) {
		t.Errorf("%+v:\n%d, %+v, not\n%d, %+v", h, x, n, e, want)
	}
	if n, x := toldCheck(s, h); x != e || !model.Same(n, want) {
		t.Errorf("%+v is told as %d, %+v", h, x, n)
	}
}

// What follows is a second telling of the chapter, word by word: each span is held against each event.

func toldNext(s api.State, e api.Event) (api.State, []api.Done) {
	free := func(s api.State, core int, _ api.Call) (api.State, []api.Done) {
		n, _, _ := model.Free(s, core)
		return n, nil
	}
	turn := func(s api.State, core int, _ api.Call) (api.State, []api.Done) { return model.Turn(s, core) }
	if e.Kind < 0 || e.Kind > 3 {
		return s, nil
	}
	return []func(api.State, int, api.Call) (api.State, []api.Done){model.Do, model.Begin, turn, free}[e.Kind](s, e.Core, e.Call)
}

func toldAll(s api.State, l []api.Event) api.State {
	for _, e := range l {
		s, _ = toldNext(s, e)
	}
	return s
}

func toldInside(x api.Span, stamp int) bool {
	return stamp >= x.Start && (x.End == 0 || stamp <= x.End)
}

func toldCheck(s api.State, h api.History) (api.State, api.Errno) {
	if hist.Check(h) != api.OK {
		return s, api.ErrHist
	}
	for _, e := range h.Events {
		n, l := toldNext(s, e)
		_, _, free := model.Free(s, e.Core)
		if !slices.Equal(l, e.Replies) || e.Kind == 0 && e.Call.Kind == 4 || e.Kind == 3 && !free {
			return s, 200
		}
		in := e.Kind == 3
		for _, x := range h.Spans {
			with := x.Call == e.Call && e.Kind != 2 || x.Call.Kind == 4 && e.Kind == 2
			in = in || x.Core == e.Core && with && toldInside(x, e.Stamp)
		}
		if !in {
			return s, 201
		}
		s = n
	}
	for _, x := range h.Spans {
		n, other := 0, false
		for _, e := range h.Events {
			for _, d := range e.Replies {
				if d.Core == x.Core && toldInside(x, e.Stamp) {
					n, other = n+1, other || d.Reply != x.Reply
				}
			}
		}
		if x.End != 0 && (n != 1 || other) || n > 1 {
			return s, 202
		}
	}
	return s, api.OK
}

// toldOrder takes the earliest of those that are left, time and again.
func toldOrder(h api.History) []int {
	left := map[int]int{}
	for at, x := range h.Spans {
		for _, e := range slices.Backward(h.Events) {
			for _, d := range e.Replies {
				if d.Core == x.Core && x.End != 0 && toldInside(x, e.Stamp) {
					left[at] = e.Stamp
				}
			}
		}
	}
	var l []int
	for len(left) > 0 {
		least := -1
		for at := range h.Spans {
			when, is := left[at]
			if is && (least < 0 || when < left[least]) {
				least = at
			}
		}
		l = append(l, least)
		delete(left, least)
	}
	return l
}

func toldRespects(h api.History, l []int) bool {
	for i, at := range l {
		if at < 0 || at >= len(h.Spans) {
			return false
		}
		for _, ahead := range l[:i] {
			a, b := h.Spans[at], h.Spans[ahead]
			if at == ahead || a.End != 0 && a.End < b.Start {
				return false
			}
		}
	}
	return true
}

// roomy is v in memory of its own, with spare room behind each list of it that is not empty, in which there is something.
func roomy[T any](v T) T {
	as := func(l reflect.Value) reflect.Value { return l }
	more := func(l reflect.Value) reflect.Value {
		if n := l.Len(); n > 0 {
			return reflect.Append(l, l.Index(n-1)).Slice(0, n)
		}
		return l
	}
	return built(reflect.ValueOf(v), as, more).Interface().(T)
}

// whole is v in memory of its own, with the room of all of its lists as a part of them.
func whole[T any](v T) T {
	all := func(l reflect.Value) reflect.Value { return l.Slice(0, l.Cap()) }
	as := func(l reflect.Value) reflect.Value { return l }
	return built(reflect.ValueOf(v), all, as).Interface().(T)
}

// built is v anew, each list of it as before makes it ahead of that, and behind makes it then.
func built(v reflect.Value, before, behind func(reflect.Value) reflect.Value) reflect.Value {
	own := reflect.New(v.Type()).Elem()
	switch v.Kind() {
	case reflect.Slice:
		l := before(v)
		for i := range l.Len() {
			own = reflect.Append(own, built(l.Index(i), before, behind))
		}
		return behind(own)
	case reflect.Struct:
		for i := range v.NumField() {
			own.Field(i).Set(built(v.Field(i), before, behind))
		}
		return own
	}
	return v
}

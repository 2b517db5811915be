package hist

import (
	"math"

	"garrison/api"
)

// The document's limits, written out.
const (
	mostCores = 64
	lastKind  = 3
)

// ends are numbers at the ends of int, and such as are small again if bits of them are lost.
var ends = []int{math.MinInt, math.MinInt + 1, math.MinInt + 2, math.MaxInt, math.MaxInt - 1, math.MaxInt - 2,
	1 << 31, -1 << 31, 1 << 32, 1<<32 + 1, 1<<32 + 2, -1 << 32, 1 << 58, -1 << 58, 1 << 62, -1 << 62, 1<<62 + 1}

// asks is a call whose fields tell it apart from others; call.Check would refuse it, and nothing here asks that.
func asks(n int) api.Call {
	return api.Call{Kind: n + 1, A: uint64(n) * 3, B: uint64(n) + 5, Rights: n + 2, Badge: n + 9, Type: n + 4, Size: n - 6, Value: int64(n) * -7}
}

// says is a reply whose fields tell it apart from others.
func says(n int) api.Reply {
	return api.Reply{Code: api.Errno(n % 9), Value: int64(n)*11 - 5, Badge: n + 300, Cap: n%2 == 0}
}

// was is a span that was answered, is one that is open.
func was(core, start, end int) api.Span {
	return api.Span{Core: core, Call: asks(core + start), Start: start, End: end, Reply: says(start)}
}

func is(core, start int) api.Span {
	return api.Span{Core: core, Call: asks(core + start), Start: start}
}

// event is one with so many replies.
func event(kind, core, stamp, replies int) api.Event {
	e := api.Event{Kind: kind, Core: core, Call: asks(core + stamp), Stamp: stamp}
	for i := range replies {
		e.Replies = append(e.Replies, api.Done{Core: core + i, Reply: says(stamp + i)})
	}
	return e
}

// of is a history of these spans alone, by one of these events alone, both one of both.
func of(l ...api.Span) api.History { return api.History{Spans: l} }

func by(l ...api.Event) api.History { return api.History{Events: l} }

func both(a, b api.History) api.History { return api.History{Spans: a.Spans, Events: b.Events} }

func deep(h api.History) api.History {
	var d api.History
	d.Spans = append(d.Spans, h.Spans...)
	for _, e := range h.Events {
		e.Replies = append([]api.Done(nil), e.Replies...)
		d.Events = append(d.Events, e)
	}
	return d
}

func likeCall(a, b api.Call) bool {
	return a.Kind == b.Kind && a.A == b.A && a.B == b.B && a.Rights == b.Rights && a.Badge == b.Badge && a.Type == b.Type && a.Size == b.Size && a.Value == b.Value
}

func likeReply(a, b api.Reply) bool {
	return a.Code == b.Code && a.Value == b.Value && a.Badge == b.Badge && a.Cap == b.Cap
}

func likeSpan(a, b api.Span) bool {
	return a.Core == b.Core && likeCall(a.Call, b.Call) && a.Start == b.Start && a.End == b.End && likeReply(a.Reply, b.Reply)
}

func likeEvent(a, b api.Event) bool {
	if a.Kind != b.Kind || a.Core != b.Core || !likeCall(a.Call, b.Call) || a.Stamp != b.Stamp || len(a.Replies) != len(b.Replies) {
		return false
	}
	for i, d := range a.Replies {
		if d.Core != b.Replies[i].Core || !likeReply(d.Reply, b.Replies[i].Reply) {
			return false
		}
	}
	return true
}

// like says whether the two are the same; nil is an empty list.
func like(a, b api.History) bool {
	if len(a.Spans) != len(b.Spans) || len(a.Events) != len(b.Events) {
		return false
	}
	for i, s := range a.Spans {
		if !likeSpan(s, b.Spans[i]) {
			return false
		}
	}
	for i, e := range a.Events {
		if !likeEvent(e, b.Events[i]) {
			return false
		}
	}
	return true
}

// What the document says of Check, rule by rule. Each span is held against all that are ahead of it.

func maySpan(l []api.Span, at int) bool {
	s := l[at]
	if s.Core < 0 || s.Core > mostCores-1 || s.Start < 1 || at > 0 && l[at-1].Start > s.Start {
		return false
	}
	if s.End != 0 && s.End < s.Start || s.End == 0 && !likeReply(s.Reply, api.Reply{}) {
		return false
	}
	for _, v := range l[:at] {
		if v.Core == s.Core && (v.End == 0 || v.End >= s.Start) {
			return false
		}
	}
	return true
}

func mayEvent(l []api.Event, at int) bool {
	e := l[at]
	if e.Kind < 0 || e.Kind > lastKind || e.Core < 0 || e.Core > mostCores-1 || e.Stamp < 1 {
		return false
	}
	return at == 0 || l[at-1].Stamp < e.Stamp
}

func may(h api.History) bool {
	for i := range h.Spans {
		if !maySpan(h.Spans, i) {
			return false
		}
	}
	for i := range h.Events {
		if !mayEvent(h.Events, i) {
			return false
		}
	}
	return true
}

func checked(h api.History) api.Errno {
	if may(h) {
		return api.OK
	}
	return 180
}

// pends is what the document says of Pending: from the front on, each span of the core takes the place of the one ahead.
func pends(h api.History, core int) (int, bool) {
	at, is := 0, false
	for i, s := range h.Spans {
		if s.Core == core {
			at, is = i, s.End == 0
		}
	}
	if !is {
		return 0, false
	}
	return at, true
}

// lastOf is a core's last span, if there is one.
func lastOf(h api.History, core int) (s api.Span, ok bool) {
	for _, v := range h.Spans {
		if v.Core == core {
			s, ok = v, true
		}
	}
	return s, ok
}

// first is the error that the document names first: those that apply are told in its order.
func first(l ...any) api.Errno {
	for i := 0; i < len(l); i += 2 {
		if l[i].(bool) {
			return l[i+1].(api.Errno)
		}
	}
	return api.OK
}

// invoked is what the document says of Invoke.
func invoked(h api.History, core int, c api.Call, now int) (api.History, api.Errno) {
	d := deep(h)
	early := now < 1
	for _, s := range h.Spans {
		early = early || now < s.Start // no Start is above the last one, where it is asked
	}
	s, ok := lastOf(h, core)
	e := first(!may(h), api.ErrHist, core < 0 || core > mostCores-1 || early, api.ErrArg, ok && (s.End == 0 || s.End >= now), api.ErrThere)
	if e == api.OK {
		d.Spans = append(d.Spans, api.Span{Core: core, Call: c, Start: now})
	}
	return d, e
}

// answered is what the document says of Answer.
func answered(h api.History, core int, r api.Reply, now int) (api.History, api.Errno) {
	d := deep(h)
	s, ok := lastOf(h, core)
	e := first(!may(h), api.ErrHist, !ok || s.End != 0, api.ErrNone, now < s.Start, api.ErrArg)
	if e == api.OK {
		at, _ := pends(h, core)
		d.Spans[at] = api.Span{Core: core, Call: s.Call, Start: s.Start, End: now, Reply: r}
	}
	return d, e
}

// noted is what the document says of Note.
func noted(h api.History, e api.Event) (api.History, api.Errno) {
	d := deep(h)
	l := append(deep(by(h.Events...)).Events, deep(by(e)).Events...)
	x := first(!may(h), api.ErrHist, !mayEvent(l, len(l)-1), api.ErrArg)
	if x == api.OK {
		d.Events = l
	}
	return d, x
}

// trial is a call with its arguments but for the history, and what the document says of it.
type trial struct {
	name      string
	got, want func(api.History) (api.History, api.Errno)
}

func invokes(core, now int) trial {
	c := asks(core + now)
	return trial{"Invoke", func(h api.History) (api.History, api.Errno) { return Invoke(h, core, c, now) },
		func(h api.History) (api.History, api.Errno) { return invoked(h, core, c, now) }}
}

func answers(core, now int) trial {
	r := says(now & 1023)
	return trial{"Answer", func(h api.History) (api.History, api.Errno) { return Answer(h, core, r, now) },
		func(h api.History) (api.History, api.Errno) { return answered(h, core, r, now) }}
}

func notes(e api.Event) trial {
	return trial{"Note", func(h api.History) (api.History, api.Errno) { return Note(h, e) },
		func(h api.History) (api.History, api.Errno) { return noted(h, e) }}
}

package port

import (
	"fmt"
	"math"
	"slices"
	"testing"

	"garrison/api"
)

// The document's limit, written out.
const mostCores = 64

// ends are numbers at the ends of int, and such as are small again if bits of them are lost.
var ends = []int{math.MinInt, math.MinInt + 1, math.MinInt + 2, math.MaxInt, math.MaxInt - 1, math.MaxInt - 2,
	1 << 31, -1 << 31, 1 << 32, 1<<32 + 1, 1<<32 + 2, -1 << 32, 1 << 58, -1 << 58, 1 << 62, -1 << 62, 1<<62 + 1}

// who is a waiter of that core, whose other fields tell it apart from the others.
func who(core int) api.Waiter {
	return api.Waiter{Core: core, Value: int64(core)*7 - 3, Badge: core + 200, Has: core%2 == 0, Slot: api.Key{Obj: core + 1, Slot: core % 8}, Gen: core + 5, Grant: core%3 == 0}
}

// of is a port of that kind, at which these cores wait.
func of(kind int, cores ...int) api.Port {
	p := api.Port{Kind: kind}
	for _, core := range cores {
		p.Queue = append(p.Queue, who(core))
	}
	return p
}

// word is p, with that Word.
func word(p api.Port, w int64) api.Port {
	p.Word = w
	return p
}

// upTo are the cores from 0 to n - 1.
func upTo(n int) []int {
	var l []int
	for core := range n {
		l = append(l, core)
	}
	return l
}

func deep(p api.Port) api.Port {
	return api.Port{Kind: p.Kind, Word: p.Word, Queue: append([]api.Waiter(nil), p.Queue...)}
}

func likeWaiter(a, b api.Waiter) bool {
	return a.Core == b.Core && a.Value == b.Value && a.Badge == b.Badge && a.Has == b.Has &&
		a.Slot.Obj == b.Slot.Obj && a.Slot.Slot == b.Slot.Slot && a.Gen == b.Gen && a.Grant == b.Grant
}

// like says whether the two are the same; nil is an empty list.
func like(a, b api.Port) bool {
	if a.Kind != b.Kind || a.Word != b.Word || len(a.Queue) != len(b.Queue) {
		return false
	}
	for i, w := range a.Queue {
		if !likeWaiter(w, b.Queue[i]) {
			return false
		}
	}
	return true
}

// room is how much a list has behind it.
const room = 3

func filling() []api.Waiter {
	return slices.Repeat([]api.Waiter{{Core: 99, Value: 99, Badge: 99, Gen: 99}}, room)
}

// roomy is p, with filled room behind its list.
func roomy(p api.Port) api.Port {
	l := append(make([]api.Waiter, 0, len(p.Queue)+room), p.Queue...)
	l = append(l, filling()...)
	return api.Port{Kind: p.Kind, Word: p.Word, Queue: l[:len(p.Queue)]}
}

// untouched says whether what roomy made of p is still so, its room too.
func untouched(r, p api.Port) bool {
	behind := api.Port{Queue: r.Queue[len(r.Queue):cap(r.Queue)]}
	return like(r, p) && like(behind, api.Port{Queue: filling()})
}

// spoil writes to the list of p, and to its room.
func spoil(p api.Port) {
	l := p.Queue[:cap(p.Queue)]
	for i := range l {
		l[i] = api.Waiter{Core: -7, Value: -7, Badge: -7}
	}
}

// may is what the document says of Check.
func may(p api.Port) bool {
	if p.Kind != 0 && p.Kind != 1 && p.Kind != 2 {
		return false
	}
	if (len(p.Queue) == 0) != (p.Kind == 0) || p.Kind != 0 && p.Word != 0 {
		return false
	}
	for i, w := range p.Queue {
		if w.Core < 0 || w.Core > 63 {
			return false
		}
		for _, v := range p.Queue[:i] {
			if v.Core == w.Core {
				return false
			}
		}
	}
	return true
}

func waitsAt(p api.Port, core int) bool {
	for _, w := range p.Queue {
		if w.Core == core {
			return true
		}
	}
	return false
}

// answer is all that a call answers.
type answer struct {
	p    api.Port
	w    api.Waiter
	ok   bool
	bits int64
	e    api.Errno
}

func (a answer) is(b answer) bool {
	return like(a.p, b.p) && likeWaiter(a.w, b.w) && a.ok == b.ok && a.bits == b.bits && a.e == b.e
}

// refusal is the error that who comes to p is answered.
func refusal(p api.Port, core int) api.Errno {
	switch {
	case !may(p) || core < 0 || core > 63:
		return api.ErrArg
	case waitsAt(p, core):
		return api.ErrThere
	}
	return api.OK
}

// firstGone is p without the first one of its Queue.
func firstGone(p api.Port) api.Port {
	q := deep(p)
	q.Queue = q.Queue[1:]
	if len(q.Queue) == 0 {
		q.Kind = 0
	}
	return q
}

// behindAll is p with w behind all, and that kind.
func behindAll(p api.Port, w api.Waiter, kind int) api.Port {
	q := deep(p)
	q.Kind, q.Queue = kind, append(q.Queue, w)
	return q
}

// met is what the document says of Send (kind 1) and Recv (kind 2).
func met(p api.Port, w api.Waiter, kind int) answer {
	if e := refusal(p, w.Core); e != api.OK {
		return answer{p: p, e: e}
	}
	if p.Kind == 3-kind {
		return answer{p: firstGone(p), w: p.Queue[0], ok: true}
	}
	return answer{p: behindAll(p, w, kind)}
}

// signalled is what the document says of Signal.
func signalled(p api.Port, bits int64) answer {
	switch {
	case may(p) && p.Kind == 2:
		w := p.Queue[0]
		w.Value = bits
		return answer{p: firstGone(p), w: w, ok: true}
	case may(p) && p.Kind == 0:
		return answer{p: word(p, p.Word|bits)}
	}
	return answer{p: p}
}

// waited is what the document says of Wait.
func waited(p api.Port, core int) answer {
	if e := refusal(p, core); e != api.OK {
		return answer{p: p, e: e}
	}
	if p.Word != 0 {
		return answer{p: word(p, 0), bits: p.Word}
	}
	return answer{p: behindAll(p, api.Waiter{Core: core}, 2)}
}

// dropped is what the document says of Drop; of a core that stands there twice, the one that stands ahead goes.
func dropped(p api.Port, core int) answer {
	for i, w := range p.Queue {
		if w.Core == core {
			q := deep(p)
			q.Queue = append(q.Queue[:i], p.Queue[i+1:]...)
			if len(q.Queue) == 0 {
				q.Kind = 0
			}
			return answer{p: q, ok: true}
		}
	}
	return answer{p: p}
}

// Each call that answers a port, and what the document says of it.

func send(p api.Port, w api.Waiter) (a answer) { a.p, a.w, a.ok, a.e = Send(p, w); return }

func recv(p api.Port, w api.Waiter) (a answer) { a.p, a.w, a.ok, a.e = Recv(p, w); return }

func signal(p api.Port, bits int64) (a answer) { a.p, a.w, a.ok = Signal(p, bits); return }

func wait(p api.Port, core int) (a answer) { a.p, a.bits, a.e = Wait(p, core); return }

func drop(p api.Port, core int) (a answer) { a.p, a.ok = Drop(p, core); return }

// trial is a call with its arguments but for the port.
type trial struct {
	name      string
	got, want func(api.Port) answer
}

func comes(w api.Waiter) []trial {
	return []trial{
		{fmt.Sprint("Send ", w), func(p api.Port) answer { return send(p, w) }, func(p api.Port) answer { return met(p, w, 1) }},
		{fmt.Sprint("Recv ", w), func(p api.Port) answer { return recv(p, w) }, func(p api.Port) answer { return met(p, w, 2) }},
	}
}

func signals(bits int64) trial {
	return trial{fmt.Sprint("Signal ", bits), func(p api.Port) answer { return signal(p, bits) }, func(p api.Port) answer { return signalled(p, bits) }}
}

func byCore(core int) []trial {
	return []trial{
		{fmt.Sprint("Wait ", core), func(p api.Port) answer { return wait(p, core) }, func(p api.Port) answer { return waited(p, core) }},
		{fmt.Sprint("Drop ", core), func(p api.Port) answer { return drop(p, core) }, func(p api.Port) answer { return dropped(p, core) }},
	}
}

// words are a notice's badges, and bits to signal.
var words = []int64{0, 1, 2, 3, 1 << 20, 1 << 31, 1 << 32, -1, -2, 1 << 62, math.MinInt64, math.MaxInt64}

// trials are all calls with these cores, and with all words.
func trials(cores ...int) []trial {
	var l []trial
	for _, core := range cores {
		l = append(l, byCore(core)...)
		l = append(l, comes(who(core))...)
		l = append(l, comes(api.Waiter{Core: core})...)
	}
	for _, bits := range words {
		l = append(l, signals(bits))
	}
	return l
}

// check holds a call of p against what the document says of it.
func (c trial) check(t *testing.T, p api.Port) {
	t.Helper()
	r := roomy(p)
	got, want := c.got(r), c.want(deep(p))
	if !got.is(want) || !untouched(r, p) {
		t.Fatal(c.name, "of", p, "answers", got, "not", want, "behind it", r)
	}
}

// good are ports that may be.
func good() []api.Port {
	all := []api.Port{{}, {Queue: []api.Waiter{}}}
	for _, w := range words {
		all = append(all, api.Port{Word: w}, api.Port{Word: w, Queue: []api.Waiter{}})
	}
	back := upTo(mostCores)
	slices.Reverse(back)
	for _, kind := range []int{1, 2} {
		for _, cores := range [][]int{{0}, {1}, {63}, {0, 1}, {1, 0}, {63, 0}, {5, 3, 4}, {2, 1, 0, 63}, upTo(9), upTo(63), back, upTo(64)} {
			all = append(all, of(kind, cores...))
		}
		all = append(all, api.Port{Kind: kind, Queue: []api.Waiter{{}}}, api.Port{Kind: kind, Queue: []api.Waiter{{Core: 2}, {Core: 1, Value: math.MinInt64, Badge: math.MinInt, Slot: api.Key{Obj: -1, Slot: math.MaxInt}, Gen: math.MaxInt}}})
	}
	return all
}

// bad are ports that may not be: each has one thing amiss, or all that can be at once.
func bad() []api.Port {
	var all []api.Port
	for _, kind := range append([]int{-2, -1, 3, 4, 255, 256, 257, 258, 65536, 65537}, ends...) {
		all = append(all, of(kind), api.Port{Kind: kind, Queue: []api.Waiter{}}, of(kind, 0), of(kind, 3, 4), word(of(kind), 1), word(of(kind, 1), 1))
	}
	for _, w := range words {
		all = append(all, word(of(0, 0), w), word(of(0, 1, 2), w), word(of(1), w), word(of(2), w), api.Port{Kind: 1, Word: w, Queue: []api.Waiter{}})
		if w != 0 {
			all = append(all, word(of(1, 0), w), word(of(2, 0), w), word(of(1, 1, 2), w), word(of(2, upTo(64)...), w))
		}
	}
	for _, core := range append([]int{-2, -1, mostCores, mostCores + 1, 100, 255, 256}, ends...) {
		for _, kind := range []int{0, 1, 2} {
			all = append(all, of(kind, core), of(kind, core, 1), of(kind, 1, core), of(kind, 1, core, 2))
		}
	}
	for _, kind := range []int{1, 2} {
		for _, cores := range [][]int{{0, 0}, {63, 63}, {1, 1, 2}, {1, 2, 2}, {1, 2, 1}, append(upTo(63), 0), append(upTo(64), 0), append(upTo(64), 63), append(upTo(64), 64), upTo(65), upTo(1000)} {
			all = append(all, of(kind, cores...))
		}
		unlike := of(kind, 1, 2)
		unlike.Queue[1].Core = 1
		all = append(all, unlike)
	}
	return all
}

// someCores are the numbers to try as a core: the edges, and the ends of int.
func someCores() []int {
	return append([]int{-2, -1, 0, 1, 2, 3, 4, 5, 31, 62, 63, 64, 65, 128, 256}, ends...)
}

// TestLimits: the document's.
func TestLimits(t *testing.T) {
	if api.MaxCores != mostCores {
		t.Fatal("limits")
	}
}

// TestCheckTable: P16.1, written out.
func TestCheckTable(t *testing.T) {
	for _, c := range []struct {
		p    api.Port
		want api.Errno
	}{
		{api.Port{}, api.OK},
		{api.Port{Queue: []api.Waiter{}}, api.OK},
		{api.Port{Word: 5}, api.OK},
		{api.Port{Word: -1}, api.OK},
		{api.Port{Queue: []api.Waiter{{}}}, api.ErrArg},
		{api.Port{Kind: 1}, api.ErrArg},
		{api.Port{Kind: 1, Queue: []api.Waiter{}}, api.ErrArg},
		{api.Port{Kind: 1, Queue: []api.Waiter{{}}}, api.OK},
		{api.Port{Kind: 2}, api.ErrArg},
		{api.Port{Kind: 2, Queue: []api.Waiter{}}, api.ErrArg},
		{api.Port{Kind: 2, Queue: []api.Waiter{{}}}, api.OK},
		{api.Port{Kind: 3}, api.ErrArg},
		{api.Port{Kind: 3, Queue: []api.Waiter{}}, api.ErrArg},
		{api.Port{Kind: 3, Queue: []api.Waiter{{}}}, api.ErrArg},
		{api.Port{Kind: -1}, api.ErrArg},
		{api.Port{Kind: -1, Queue: []api.Waiter{}}, api.ErrArg},
		{api.Port{Kind: -1, Queue: []api.Waiter{{}}}, api.ErrArg},
		{of(1, -1), api.ErrArg},
		{of(1, 0), api.OK},
		{of(1, 63), api.OK},
		{of(1, 64), api.ErrArg},
		{of(2, 3, -1), api.ErrArg},
		{of(2, 3, 0), api.OK},
		{of(2, 3, 63), api.OK},
		{of(2, 3, 64), api.ErrArg},
		{of(1, 4, 4), api.ErrArg},
		{of(2, 4, 1, 2, 4), api.ErrArg},
		{of(2, 4, 3, 2, 1), api.OK},
		{word(of(1, 0), 1), api.ErrArg},
		{word(of(2, 0), 1), api.ErrArg},
		{word(of(2, 0), -1), api.ErrArg},
		{word(of(2, 0), math.MinInt64), api.ErrArg},
	} {
		if got := Check(c.p); got != c.want {
			t.Error(c.p, got)
		}
	}
}

// TestCheck: P16.1, of all that may be and may not be here.
func TestCheck(t *testing.T) {
	for _, p := range good() {
		if r := roomy(p); !may(p) || Check(p) != api.OK || Check(r) != api.OK || !untouched(r, p) {
			t.Fatal(p)
		}
	}
	for _, p := range bad() {
		if r := roomy(p); may(p) || Check(p) != api.ErrArg || Check(r) != api.ErrArg || !untouched(r, p) {
			t.Fatal(p)
		}
	}
}

// TestCheckAlike: P16.1: any two places of a long queue may not have one core, nor any place one that there is not.
func TestCheckAlike(t *testing.T) {
	for _, kind := range []int{1, 2} {
		for i := range mostCores {
			for j := range mostCores {
				p := of(kind, upTo(mostCores)...)
				p.Queue[i].Core = p.Queue[j].Core
				if got := Check(p); (got == api.OK) != (i == j) || got != api.OK && got != api.ErrArg {
					t.Fatal(kind, i, j, got)
				}
			}
			for _, core := range append([]int{-1, 64}, ends...) {
				p := of(kind, upTo(mostCores)...)
				p.Queue[i].Core = core
				if Check(p) != api.ErrArg {
					t.Fatal(kind, i, core)
				}
			}
		}
	}
}

// TestSame: P16.1, of each pair of some that may be and may not.
func TestSame(t *testing.T) {
	base := of(1, 3, 4)
	all := []api.Port{base, of(2, 3, 4), of(0, 3, 4), word(base, 1), word(base, math.MinInt64), word(base, 1<<32), of(1<<32+1, 3, 4), of(1, 4, 3), of(1, 3), of(1, 4), of(1, 3, 4, 4), of(1, 3, 4, 5), of(1, 3, 3), {}, {Word: 1}, {Kind: 1}, {Queue: []api.Waiter{{}}}, {Queue: []api.Waiter{{}, {}}}}
	for at := range 2 {
		for _, change := range []func(*api.Waiter){
			func(w *api.Waiter) { w.Core++ },
			func(w *api.Waiter) { w.Core += 1 << 32 },
			func(w *api.Waiter) { w.Value++ },
			func(w *api.Waiter) { w.Value += 1 << 32 },
			func(w *api.Waiter) { w.Badge++ },
			func(w *api.Waiter) { w.Badge += 1 << 32 },
			func(w *api.Waiter) { w.Has = !w.Has },
			func(w *api.Waiter) { w.Slot.Obj++ },
			func(w *api.Waiter) { w.Slot.Obj += 1 << 32 },
			func(w *api.Waiter) { w.Slot.Slot-- },
			func(w *api.Waiter) { w.Slot.Slot += 1 << 32 },
			func(w *api.Waiter) { w.Gen++ },
			func(w *api.Waiter) { w.Gen += 1 << 32 },
			func(w *api.Waiter) { w.Grant = !w.Grant },
		} {
			p := deep(base)
			change(&p.Queue[at])
			if Same(p, base) || Same(base, p) {
				t.Fatal("not told apart", p, base)
			}
			all = append(all, p)
		}
	}
	for i, p := range all {
		for j, q := range all {
			if got := Same(p, q); got != like(p, q) || got != (i == j) {
				t.Fatal(p, q, got)
			}
		}
		r := roomy(p)
		if !Same(r, deep(p)) || !Same(deep(p), r) || !untouched(r, p) {
			t.Fatal("room is told", p)
		}
	}
}

// TestSameNil: P16.1: nil and an empty Queue are the same, of each Kind and Word.
func TestSameNil(t *testing.T) {
	for _, kind := range append([]int{-1, 0, 1, 2, 3}, ends...) {
		for _, w := range words {
			a, b := api.Port{Kind: kind, Word: w}, api.Port{Kind: kind, Word: w, Queue: []api.Waiter{}}
			if !Same(a, b) || !Same(b, a) || !Same(a, a) || !Same(b, b) {
				t.Fatal(kind, w)
			}
			b.Queue = append(b.Queue, api.Waiter{})
			if Same(a, b) || Same(b, a) {
				t.Fatal("somebody is in it", kind, w)
			}
		}
	}
}

// small calls do with all ports of Kinds -1 to 3, with a Word and without, of up to three cores that may be and may not.
func small(do func(api.Port)) {
	cores := []int{-1, 0, 1, 2, 63, 64}
	queues := [][]int{nil}
	for range 3 {
		var longer [][]int
		for _, q := range queues {
			for _, core := range cores {
				longer = append(longer, append(slices.Clone(q), core))
			}
		}
		queues = append(queues, longer...)
	}
	for kind := -1; kind <= 3; kind++ {
		for _, w := range []int64{0, 6, -1} {
			for _, q := range queues {
				do(word(of(kind, q...), w))
			}
		}
	}
}

// TestSmall: P16.1 to P16.5, of all small ports.
func TestSmall(t *testing.T) {
	taking := 0
	calls := trials(-1, 0, 1, 2, 3, 63, 64)
	small(func(p api.Port) {
		if (Check(p) == api.OK) != may(p) {
			t.Fatal(p, Check(p))
		}
		if may(p) {
			taking++
		}
		for _, c := range calls {
			c.check(t, p)
		}
	})
	if taking < 100 {
		t.Fatal("too few may be:", taking)
	}
}

// TestEnds: P16.1 to P16.5, of all that may be and may not be here, with cores and bits at the ends of their types.
func TestEnds(t *testing.T) {
	calls := trials(someCores()...)
	odd := api.Waiter{Core: 1, Value: math.MinInt64, Badge: math.MinInt, Slot: api.Key{Obj: math.MaxInt, Slot: math.MinInt}, Gen: -1}
	calls = append(calls, comes(odd)...)
	for _, p := range slices.Concat(good(), bad()) {
		for _, c := range calls {
			c.check(t, p)
		}
	}
}

// TestMeet: P16.2, written out.
func TestMeet(t *testing.T) {
	for _, c := range []struct {
		p    api.Port
		core int
		send answer
		recv answer
	}{
		{of(0), 7, answer{p: of(1, 7)}, answer{p: of(2, 7)}},
		{api.Port{Queue: []api.Waiter{}}, 7, answer{p: of(1, 7)}, answer{p: of(2, 7)}},
		{of(1, 3), 7, answer{p: of(1, 3, 7)}, answer{p: of(0), w: who(3), ok: true}},
		{of(2, 3), 7, answer{p: of(0), w: who(3), ok: true}, answer{p: of(2, 3, 7)}},
		{of(1, 3, 9, 1), 2, answer{p: of(1, 3, 9, 1, 2)}, answer{p: of(1, 9, 1), w: who(3), ok: true}},
		{of(2, 3, 9, 1), 2, answer{p: of(2, 9, 1), w: who(3), ok: true}, answer{p: of(2, 3, 9, 1, 2)}},
		{of(1, 3, 9, 1), 3, answer{p: of(1, 3, 9, 1), e: api.ErrThere}, answer{p: of(1, 3, 9, 1), e: api.ErrThere}},
		{of(1, 3, 9, 1), 9, answer{p: of(1, 3, 9, 1), e: api.ErrThere}, answer{p: of(1, 3, 9, 1), e: api.ErrThere}},
		{of(2, 3, 9, 1), 1, answer{p: of(2, 3, 9, 1), e: api.ErrThere}, answer{p: of(2, 3, 9, 1), e: api.ErrThere}},
		{of(2, 0), 0, answer{p: of(2, 0), e: api.ErrThere}, answer{p: of(2, 0), e: api.ErrThere}},
		{of(1, 3), -1, answer{p: of(1, 3), e: api.ErrArg}, answer{p: of(1, 3), e: api.ErrArg}},
		{of(2, 3), 64, answer{p: of(2, 3), e: api.ErrArg}, answer{p: of(2, 3), e: api.ErrArg}},
		{of(0), 64, answer{p: of(0), e: api.ErrArg}, answer{p: of(0), e: api.ErrArg}},
		{of(0), 63, answer{p: of(1, 63)}, answer{p: of(2, 63)}},
		{of(3, 3), 7, answer{p: of(3, 3), e: api.ErrArg}, answer{p: of(3, 3), e: api.ErrArg}},
		{of(0, 3), 3, answer{p: of(0, 3), e: api.ErrArg}, answer{p: of(0, 3), e: api.ErrArg}},
		{word(of(0), 6), 7, answer{p: word(of(1, 7), 6)}, answer{p: word(of(2, 7), 6)}}, // the Word stays: nothing is said of it
	} {
		if got := send(c.p, who(c.core)); !got.is(c.send) {
			t.Error("Send", c.p, c.core, got)
		}
		if got := recv(c.p, who(c.core)); !got.is(c.recv) {
			t.Error("Recv", c.p, c.core, got)
		}
	}
}

// TestErrorsOrder: P16.2, P16.4: ErrArg comes first, whether the port or the core may not be, with a core that waits and one that does not.
func TestErrorsOrder(t *testing.T) {
	for _, p := range []api.Port{of(0, 5), of(3, 5), of(-1, 5), word(of(1, 5), 1), word(of(2, 5), 1), of(1, 5, 5), of(2, 5, 64), of(1, -1, 5), of(2, 5, -1, 64)} {
		for _, core := range []int{5, 6, -1, 64} {
			for i, got := range []answer{send(p, who(core)), recv(p, who(core)), wait(p, core)} {
				if !got.is(answer{p: p, e: api.ErrArg}) {
					t.Error(i, p, core, got)
				}
			}
		}
	}
	for _, p := range []api.Port{of(1, 5), of(2, 5)} {
		for i, got := range []answer{send(p, who(5)), recv(p, who(5)), wait(p, 5)} {
			if !got.is(answer{p: p, e: api.ErrThere}) {
				t.Error(i, p, got)
			}
		}
	}
}

// TestAllWait: P16.2, P16.4, P16.5: at a port at which as many wait as there are cores, and one less.
func TestAllWait(t *testing.T) {
	for _, kind := range []int{1, 2} {
		p := of(kind, upTo(mostCores)...)
		for core := range mostCores {
			for i, got := range []answer{send(p, who(core)), recv(p, who(core)), wait(p, core)} {
				if !got.is(answer{p: p, e: api.ErrThere}) {
					t.Fatal(i, kind, core, got)
				}
			}
			rest := slices.Delete(upTo(mostCores), core, core+1)
			got := drop(p, core)
			if !got.is(answer{p: of(kind, rest...), ok: true}) {
				t.Fatal(kind, core, got)
			}
			again := met(got.p, who(core), kind)
			if kind == 1 && !send(got.p, who(core)).is(again) || kind == 2 && !recv(got.p, who(core)).is(again) || len(again.p.Queue) != mostCores {
				t.Fatal(kind, core, again)
			}
		}
		for i, got := range []answer{send(p, who(64)), recv(p, who(64)), wait(p, 64), send(p, who(-1)), recv(p, who(-1)), wait(p, -1)} {
			if !got.is(answer{p: p, e: api.ErrArg}) {
				t.Fatal(i, kind, got)
			}
		}
	}
}

// TestSignal: P16.3, written out.
func TestSignal(t *testing.T) {
	woken := func(core int, bits int64) api.Waiter {
		w := who(core)
		w.Value = bits
		return w
	}
	for _, c := range []struct {
		p    api.Port
		bits int64
		want answer
	}{
		{of(0), 0, answer{p: of(0)}},
		{of(0), 4, answer{p: word(of(0), 4)}},
		{of(0), -1, answer{p: word(of(0), -1)}},
		{of(0), math.MinInt64, answer{p: word(of(0), math.MinInt64)}},
		{word(of(0), 5), 0, answer{p: word(of(0), 5)}},
		{word(of(0), 5), 2, answer{p: word(of(0), 7)}},
		{word(of(0), 5), 4, answer{p: word(of(0), 5)}},
		{word(of(0), 5), 6, answer{p: word(of(0), 7)}},
		{word(of(0), 5), -8, answer{p: word(of(0), -3)}},
		{word(of(0), math.MaxInt64), math.MinInt64, answer{p: word(of(0), -1)}},
		{of(1, 3), 4, answer{p: of(1, 3)}},
		{of(1, 3, 4), -1, answer{p: of(1, 3, 4)}},
		{of(2, 3), 4, answer{p: of(0), w: woken(3, 4), ok: true}},
		{of(2, 3), 0, answer{p: of(0), w: woken(3, 0), ok: true}},
		{of(2, 3), -1, answer{p: of(0), w: woken(3, -1), ok: true}},
		{of(2, 3, 1, 2), 8, answer{p: of(2, 1, 2), w: woken(3, 8), ok: true}},
		{of(3, 3), 4, answer{p: of(3, 3)}},
		{of(0, 3), 4, answer{p: of(0, 3)}},
		{of(2), 4, answer{p: of(2)}},
		{of(-1), 4, answer{p: of(-1)}},
		{word(of(2, 3), 1), 4, answer{p: word(of(2, 3), 1)}},
		{of(2, 3, 3), 4, answer{p: of(2, 3, 3)}},
		{of(2, 3, 64), 4, answer{p: of(2, 3, 64)}},
	} {
		if got := signal(c.p, c.bits); !got.is(c.want) {
			t.Error(c.p, c.bits, got)
		}
	}
}

// TestWait: P16.4, written out.
func TestWait(t *testing.T) {
	alone := api.Waiter{Core: 7}
	for _, c := range []struct {
		p    api.Port
		core int
		want answer
	}{
		{of(0), 7, answer{p: api.Port{Kind: 2, Queue: []api.Waiter{alone}}}},
		{of(0), 0, answer{p: api.Port{Kind: 2, Queue: []api.Waiter{{}}}}},
		{of(0), 63, answer{p: api.Port{Kind: 2, Queue: []api.Waiter{{Core: 63}}}}},
		{of(0), 64, answer{p: of(0), e: api.ErrArg}},
		{of(0), -1, answer{p: of(0), e: api.ErrArg}},
		{word(of(0), 5), 7, answer{p: of(0), bits: 5}},
		{word(of(0), -1), 7, answer{p: of(0), bits: -1}},
		{word(of(0), math.MinInt64), 63, answer{p: of(0), bits: math.MinInt64}},
		{word(of(0), 5), 64, answer{p: word(of(0), 5), e: api.ErrArg}},
		{of(2, 3), 7, answer{p: api.Port{Kind: 2, Queue: []api.Waiter{who(3), alone}}}},
		{of(2, 3, 1), 7, answer{p: api.Port{Kind: 2, Queue: []api.Waiter{who(3), who(1), alone}}}},
		{of(2, 3), 3, answer{p: of(2, 3), e: api.ErrThere}},
		{of(2, 1, 3), 3, answer{p: of(2, 1, 3), e: api.ErrThere}},
		{of(1, 3), 7, answer{p: api.Port{Kind: 2, Queue: []api.Waiter{who(3), alone}}}}, // as told, but Kind is 2
		{of(1, 3), 3, answer{p: of(1, 3), e: api.ErrThere}},
		{of(1, 3), 64, answer{p: of(1, 3), e: api.ErrArg}},
		{word(of(1, 3), 5), 7, answer{p: word(of(1, 3), 5), e: api.ErrArg}},
		{word(of(2, 3), 5), 3, answer{p: word(of(2, 3), 5), e: api.ErrArg}},
		{of(3), 7, answer{p: of(3), e: api.ErrArg}},
		{word(of(3), 5), 7, answer{p: word(of(3), 5), e: api.ErrArg}},
	} {
		if got := wait(c.p, c.core); !got.is(c.want) {
			t.Error(c.p, c.core, got)
		}
	}
}

// TestDrop: P16.5, written out.
func TestDrop(t *testing.T) {
	for _, c := range []struct {
		p    api.Port
		core int
		want answer
	}{
		{of(0), 0, answer{p: of(0)}},
		{word(of(0), 5), 0, answer{p: word(of(0), 5)}},
		{of(1, 3), 3, answer{p: of(0), ok: true}},
		{of(2, 3), 3, answer{p: of(0), ok: true}},
		{of(2, 3), 4, answer{p: of(2, 3)}},
		{of(1, 3, 4, 5), 3, answer{p: of(1, 4, 5), ok: true}},
		{of(2, 3, 4, 5), 4, answer{p: of(2, 3, 5), ok: true}},
		{of(1, 3, 4, 5), 5, answer{p: of(1, 3, 4), ok: true}},
		{of(2, 3, 4, 5), 0, answer{p: of(2, 3, 4, 5)}},
		{of(2, 3, 4, 5), -1, answer{p: of(2, 3, 4, 5)}},
		{of(2, 3, 4, 5), 64, answer{p: of(2, 3, 4, 5)}},
		{of(1), 3, answer{p: of(1)}},
		{of(3, 3), 3, answer{p: of(0), ok: true}},
		{of(3, 3, 4), 3, answer{p: of(3, 4), ok: true}},
		{of(0, 3, 4), 3, answer{p: of(0, 4), ok: true}},
		{word(of(1, 3), 5), 3, answer{p: word(of(0), 5), ok: true}},
		{word(of(2, 3, 4), 5), 3, answer{p: word(of(2, 4), 5), ok: true}},
		{word(of(2, 3, 4), 5), 5, answer{p: word(of(2, 3, 4), 5)}},
		{of(1, -1, 4), -1, answer{p: of(1, 4), ok: true}},
		{of(1, 4, 64), 64, answer{p: of(1, 4), ok: true}},
		{of(1, 4, math.MinInt), math.MinInt, answer{p: of(1, 4), ok: true}},
		{of(1, 4, 5, 4), 4, answer{p: of(1, 5, 4), ok: true}}, // the one that stands ahead
	} {
		if got := drop(c.p, c.core); !got.is(c.want) {
			t.Error(c.p, c.core, got)
		}
	}
}

// TestExample: the chapter's.
func TestExample(t *testing.T) {
	var p api.Port
	steps := []struct {
		call func(api.Port, api.Waiter) answer
		core int
		want answer
	}{
		{recv, 1, answer{p: of(2, 1)}},
		{recv, 2, answer{p: of(2, 1, 2)}},
		{send, 3, answer{p: of(2, 2), w: who(1), ok: true}},
		{send, 4, answer{p: of(0), w: who(2), ok: true}},
		{send, 5, answer{p: of(1, 5)}},
	}
	for _, s := range steps {
		got := s.call(p, who(s.core))
		if !got.is(s.want) {
			t.Fatal(s.core, got)
		}
		p = got.p
	}
}

// TestRoom: rule 3: what is handed in is as it was behind each call, its room too; what is answered is in memory of its own.
func TestRoom(t *testing.T) {
	calls := trials(-1, 0, 1, 2, 3, 4, 9, 63, 64)
	for _, p := range slices.Concat(good(), bad()) {
		for _, c := range calls {
			r := roomy(p)
			a, b := c.got(r), c.got(r)
			if !a.is(b) || !untouched(r, p) {
				t.Fatal(c.name, "of", p, "answers", a, b)
			}
			was := deep(b.p)
			spoil(a.p)
			if !untouched(r, p) || !like(b.p, was) {
				t.Fatal(c.name, "shares memory", p)
			}
			spoil(r)
			if !like(b.p, was) {
				t.Fatal(c.name, "keeps what it was handed", p)
			}
		}
	}
}

// TestNilIsEmpty: rule 3: a nil Queue and an empty one are handed in alike.
func TestNilIsEmpty(t *testing.T) {
	calls := trials(-1, 0, 63, 64)
	for kind := -1; kind <= 3; kind++ {
		for _, w := range words {
			for _, c := range calls {
				a, b := c.got(api.Port{Kind: kind, Word: w}), c.got(api.Port{Kind: kind, Word: w, Queue: []api.Waiter{}})
				if !a.is(b) {
					t.Fatal(c.name, kind, w, a, b)
				}
			}
		}
	}
}

// crowd is a port, and who has come to it: each one has its own number as its Value.
type crowd struct {
	p     api.Port
	line  []int64 // who waits, in the order in which they came
	sends bool    // they do; else they receive
	came  int64
	gone  int64 // were met, met somebody at once, or were dropped
}

// arrive has a core come to the port; a text tells what is amiss.
func (c *crowd) arrive(core int, sends bool) string {
	w := who(core)
	w.Value = c.came
	call := recv
	if sends {
		call = send
	}
	got := call(c.p, w)
	if waitsAt(c.p, core) {
		if !got.is(answer{p: c.p, e: api.ErrThere}) {
			return "it waits already"
		}
		return ""
	}
	c.p = got.p
	c.came++
	meets := len(c.line) > 0 && c.sends != sends
	switch {
	case got.e != api.OK || got.ok != meets:
		return fmt.Sprint("meets nobody, or somebody that there is not: ", got)
	case meets && got.w.Value != c.line[0]:
		return fmt.Sprint("meets another one than the first: ", got.w, c.line)
	case meets:
		c.line = c.line[1:]
		c.gone += 2
	default:
		c.line = append(slices.Clone(c.line), w.Value)
		c.sends = sends
	}
	return c.amiss()
}

// leave has a core wait no more.
func (c *crowd) leave(core int) string {
	at := slices.IndexFunc(c.p.Queue, func(w api.Waiter) bool { return w.Core == core })
	got := drop(c.p, core)
	if got.ok != (at >= 0) {
		return fmt.Sprint("dropped: ", got.ok)
	}
	c.p = got.p
	if at >= 0 {
		c.line = slices.Delete(slices.Clone(c.line), at, at+1)
		c.gone++
	}
	return c.amiss()
}

// amiss tells where the port is unlike the line of those who came.
func (c *crowd) amiss() string {
	kind := 0
	if len(c.line) > 0 {
		kind = 2
		if c.sends {
			kind = 1
		}
	}
	if Check(c.p) != api.OK || c.p.Kind != kind || c.p.Word != 0 {
		return fmt.Sprint("who sends and who receives: ", c.p)
	}
	var have []int64
	for _, w := range c.p.Queue {
		have = append(have, w.Value)
	}
	if !slices.Equal(have, c.line) || c.came != c.gone+int64(len(have)) {
		return fmt.Sprint("lost, or twice: ", have, c.line, c.came, c.gone)
	}
	return ""
}

// TestFirstCome: P16.6, of all orders of six calls of three cores.
func TestFirstCome(t *testing.T) {
	const cores, calls, kinds = 3, 6, 3
	now := []crowd{{}}
	mets := 0
	for range calls {
		var next []crowd
		for _, c := range now {
			for core := range cores {
				for kind := range kinds {
					d := c
					wrong := ""
					if kind == 2 {
						wrong = d.leave(core)
					} else {
						wrong = d.arrive(core, kind == 0)
					}
					if wrong != "" {
						t.Fatal(c.p, core, kind, wrong)
					}
					if d.gone == c.gone+2 {
						mets++
					}
					if d.came != c.came || d.gone != c.gone {
						next = append(next, d)
					}
				}
			}
		}
		now = next
	}
	if mets < 1000 {
		t.Fatal("too few met:", mets)
	}
}

// TestManyCome: P16.6, of long runs of all cores: by turns most of them send, and most of them receive.
func TestManyCome(t *testing.T) {
	for seed := range uint32(8) {
		var c crowd
		x := seed*2654435761 + 1
		longest := 0
		for i := range 5000 {
			x = x*1664525 + 1013904223
			core := int(x>>8) % mostCores
			wrong := ""
			switch pick := x >> 24 % 16; {
			case pick == 0:
				wrong = c.leave(core)
			default:
				wrong = c.arrive(core, (i/200+int(pick)/12)%2 == 0)
			}
			if wrong != "" {
				t.Fatal(seed, i, core, wrong)
			}
			longest = max(longest, len(c.line))
		}
		if longest < 40 || c.gone < 1000 {
			t.Fatal("too short, or too few met:", seed, longest, c.gone)
		}
	}
}

// TestBadges: P16.3, P16.4, P16.6, of all orders of six calls of a notice by three cores: each bit that was signalled is had once, by the first who waits, or lies in the Word.
func TestBadges(t *testing.T) {
	type notice struct {
		p    api.Port
		line []int
		lie  int64 // bits that nobody had yet
	}
	now := []notice{{}}
	for step := range 6 {
		var next []notice
		for _, n := range now {
			bit := int64(1) << step
			q, w, ok := Signal(n.p, bit)
			s := notice{q, n.line, n.lie | bit}
			if ok != (len(n.line) > 0) || ok && w != (api.Waiter{Core: n.line[0], Value: bit}) {
				t.Fatal(n, q, w, ok)
			}
			if ok {
				s = notice{q, n.line[1:], n.lie}
			}
			next = append(next, s)
			for core := range 3 {
				q, bits, e := Wait(n.p, core)
				there := slices.Contains(n.line, core)
				if there != (e == api.ErrThere) || !there && (e != api.OK || bits != n.lie) {
					t.Fatal(n, core, q, bits, e)
				}
				switch {
				case there:
				case bits != 0:
					next = append(next, notice{q, n.line, 0})
				default:
					next = append(next, notice{q, append(slices.Clone(n.line), core), 0})
				}
			}
		}
		for _, n := range next {
			var have []int
			for _, w := range n.p.Queue {
				have = append(have, w.Core)
			}
			if Check(n.p) != api.OK || n.p.Word != n.lie || n.p.Kind == 1 || !slices.Equal(have, n.line) {
				t.Fatal(n)
			}
		}
		now = next
	}
	if len(now) < 500 {
		t.Fatal("too few:", len(now))
	}
}

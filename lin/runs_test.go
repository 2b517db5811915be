package lin

import (
	"slices"
	"testing"

	"garrison/api"
	"garrison/kernel"
	"garrison/model"
)

// dice are numbers that look like chance, the same each time.
type dice uint64

func (d *dice) upTo(n int) int {
	*d = *d*6364136223846793005 + 1442695040888963407
	return int(uint64(*d) >> 33 % uint64(n))
}

func (d *dice) one(l ...int) int { return l[d.upTo(len(l))] }

// address leads to a slot of the core's own node mostly; else by way of a node there.
func (d *dice) address() uint64 {
	if d.upTo(8) == 0 {
		return to(d.upTo(6), d.upTo(3))
	}
	return to(d.upTo(6))
}

// plain is a call that waits for nobody, and by which nothing dies.
func (d *dice) plain() api.Call {
	a, b := d.address(), d.address()
	switch d.upTo(8) {
	case 0, 1:
		return api.Call{Kind: api.CaMint, A: a, B: b, Rights: d.one(15, 15, 7, 1), Badge: d.one(0, 0, 1)}
	case 2:
		return api.Call{Kind: api.CaMove, A: a, B: b}
	case 3, 4:
		return api.Call{Kind: api.CaRetype, A: to(0), B: b, Type: d.one(1, 2, 2, 3, 3, 4, 5), Size: d.one(0, 0, 0, 16, 32)}
	case 5:
		return api.Call{Kind: api.CaRead, A: a}
	case 6:
		return api.Call{Kind: api.CaWrite, A: a, Value: int64(d.upTo(9))}
	}
	return api.Call{Kind: d.one(api.CaLook, api.CaLook, api.CaSignal, 0, -1), A: a}
}

// call is one of all kinds.
func (d *dice) call() api.Call {
	a, maybe := d.address(), d.address()
	if d.upTo(3) == 0 {
		maybe = 0
	}
	if d.upTo(2) == 0 {
		a = to(d.one(1, 2))
	}
	switch d.upTo(15) {
	case 0, 1:
		return api.Call{Kind: api.CaSend, A: a, B: maybe, Value: int64(d.upTo(9))}
	case 2, 3:
		return api.Call{Kind: api.CaRecv, A: a, B: maybe}
	case 4:
		return api.Call{Kind: api.CaWait, A: d.address()}
	case 5, 6:
		return api.Call{Kind: api.CaDelete, A: to(2 + d.upTo(4))}
	case 7, 8:
		return api.Call{Kind: api.CaRevoke, A: d.address()}
	case 9:
		return retype(d.one(2, 2, 3, 4), d.one(api.TyEndpoint, api.TyNotice))
	}
	return d.plain()
}

// picks say in which order cores do steps: by chance, in bursts, round by round, or with one that is slow.
func (d *dice) picks(cores, n int) []int {
	var l []int
	way, slow := d.upTo(4), d.upTo(cores)
	for len(l) < n {
		switch core := d.upTo(cores); {
		case way == 0:
			l = append(l, core)
		case way == 1:
			l = append(l, slices.Repeat([]int{core}, 1+d.upTo(20))...)
		case way == 2:
			l = append(l, len(l)%cores)
		case core != slow || d.upTo(10) == 0:
			l = append(l, core)
		}
	}
	return l
}

// rounds has all cores do steps until none has anything to do.
func rounds(k *kernel.Kernel, cores int) {
	for did := true; did; {
		did = false
		for core := range cores {
			did = k.Step(core) || did
		}
	}
}

// linear is P20.4 of what a kernel has done until now, from s on.
func linear(t *testing.T, s api.State, k *kernel.Kernel) api.History {
	t.Helper()
	h := k.Hist()
	n, e := Check(s, h)
	if e != api.OK || !model.Same(n, k.State()) {
		t.Fatalf("%+v: %d, %+v", h, e, n)
	}
	l := Order(h)
	if !Respects(h, l) || !toldRespects(h, l) || !slices.Equal(l, toldOrder(h)) {
		t.Fatalf("%+v: %v", h, l)
	}
	ended := 0
	for at, x := range h.Spans {
		if (x.End != 0) != slices.Contains(l, at) {
			t.Fatalf("%+v: %d in %v", h, at, l)
		}
		if x.End != 0 {
			ended++
		}
	}
	if len(l) != ended {
		t.Fatalf("%+v: %v", h, l)
	}
	return h
}

// TestRuns: P20.4, at many moments of long runs of a kernel, with picks in many orders.
func TestRuns(t *testing.T) {
	codes, kinds, turned := map[api.Errno]int{}, [4]int{}, 0
	for seed := range 60 {
		d := dice(seed*7919 + 1)
		cores, domains := 1+d.upTo(6), 1+d.upTo(3)
		objs, space := 2*domains+4+d.upTo(20), d.one(64, 256, 1024)
		k, e := kernel.New(cores, objs, space, domains)
		s, x := model.New(cores, objs, space, domains)
		if e != api.OK || x != api.OK {
			t.Fatal(e, x)
		}
		for range 4 {
			for core := range cores {
				for range 3 + d.upTo(8) {
					k.Load(core, d.call())
				}
			}
			picks := d.picks(cores, 400)
			for part := range slices.Chunk(picks, 80) {
				k.Run(part...)
				linear(t, s, k)
			}
		}
		rounds(k, cores)
		h := linear(t, s, k)
		if m, y := toldCheck(s, h); y != api.OK || !model.Same(m, k.State()) {
			t.Fatal(seed, y)
		}
		if !slices.IsSorted(Order(h)) {
			turned++
		}
		for _, one := range h.Spans {
			codes[one.Reply.Code]++
		}
		for _, one := range h.Events {
			kinds[one.Kind]++
		}
	}
	for _, e := range []api.Errno{0, api.ErrFull, api.ErrNone, api.ErrThere, api.ErrGone, api.ErrAddr, api.ErrCall, api.ErrType} {
		if codes[e] < 2 {
			t.Error("too few", e, codes)
		}
	}
	if slices.Min(kinds[:]) < 50 || turned < 20 {
		t.Error("too few", kinds, turned)
	}
}

// TestManyCores: P20.4 of as many as there can be.
func TestManyCores(t *testing.T) {
	k, _ := kernel.New(64, 64, 4096, 4)
	s, _ := model.New(64, 64, 4096, 4)
	d := dice(5)
	for core := range 64 {
		k.Load(core, d.call(), d.call(), d.call())
	}
	k.Run(d.picks(64, 4000)...)
	linear(t, s, k)
	rounds(k, 64)
	h := linear(t, s, k)
	if l := Order(h); len(l) < 100 || slices.IsSorted(l) {
		t.Fatal(l)
	}
}

// TestOneBehindTheOther: P20.4: with calls that wait for nobody, and by which nothing dies, the events are not needed: the calls themselves are done in that order, each at once, and each has its reply.
func TestOneBehindTheOther(t *testing.T) {
	turned := 0
	for seed := range 60 {
		d := dice(seed*104729 + 3)
		cores := 2 + d.upTo(5)
		k, _ := kernel.New(cores, 40, 1024, 1)
		s, _ := model.New(cores, 40, 1024, 1)
		for core := range cores {
			for range 8 + d.upTo(12) {
				k.Load(core, d.plain())
			}
		}
		k.Run(d.picks(cores, 600)...)
		rounds(k, cores)
		h := linear(t, s, k)
		l := Order(h)
		for _, at := range l {
			x := h.Spans[at]
			n, replies := model.Do(s, x.Core, x.Call)
			if !slices.Equal(replies, []api.Done{done(x.Core, x.Reply)}) {
				t.Fatalf("seed %d: %+v is answered %+v in %v", seed, x, replies, l)
			}
			s = n
		}
		if !model.Same(s, k.State()) || len(l) != len(h.Spans) {
			t.Fatalf("seed %d: %+v", seed, s)
		}
		if !slices.IsSorted(l) {
			turned++
		}
	}
	if turned < 30 {
		t.Fatal("too few", turned)
	}
}

// TestLongHistory: one core's calls, of which there are many.
func TestLongHistory(t *testing.T) {
	s := state(t)
	var h api.History
	for i := range 20000 {
		h.Spans = append(h.Spans, over(0, read(3), 3*i+1, 3*i+3, code(api.ErrNone)))
		h.Events = append(h.Events, event(api.EvDo, 0, read(3), 3*i+2, done(0, code(api.ErrNone))))
	}
	l := Order(h)
	if n, e := Check(s, h); e != api.OK || !model.Same(n, s) || len(l) != 20000 || !slices.IsSorted(l) || !Respects(h, l) {
		t.Fatal(e, len(l))
	}
	l[7], l[19000] = l[19000], l[7]
	h.Spans[19999].Reply.Value = 1
	if _, e := Check(s, h); e != api.ErrOnce || Respects(h, l) {
		t.Fatal(e)
	}
}

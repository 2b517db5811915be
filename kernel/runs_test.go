package kernel

import (
	"fmt"
	"math"
	"slices"
	"testing"

	"garrison/addr"
	"garrison/api"
)

// dice are numbers that look like chance, the same each time.
type dice uint64

func (d *dice) upTo(n int) int {
	*d = *d*6364136223846793005 + 1442695040888963407
	return int(uint64(*d) >> 33 % uint64(n))
}

func (d *dice) one(l ...int) int { return l[d.upTo(len(l))] }

// address leads to a slot of the core's own node mostly; else by way of a node there, or nowhere.
func (d *dice) address() uint64 {
	switch d.upTo(12) {
	case 0, 1:
		return to(d.upTo(8), d.upTo(8))
	case 2:
		w, _ := addr.Put(api.Step{Index: d.upTo(8)}, api.Step{Guard: d.upTo(3), Index: d.upTo(8)}, api.Step{Index: d.upTo(8)})
		return w
	}
	return to(d.upTo(8))
}

// call is one of those that may be, mostly.
func (d *dice) call() api.Call {
	a, b := d.address(), d.address()
	rights := d.one(15, 15, 15, 7, 3, 1, 0)
	maybe := b
	if d.upTo(3) == 0 {
		maybe = 0
	}
	switch n := d.upTo(46) - 6; {
	case n < 2:
		return erase(a)
	case n < 9:
		return mint(a, b, rights, d.one(0, 0, 0, 1, 2, 6))
	case n < 12:
		return move(a, b)
	case n < 15:
		return erase(to(d.upTo(8)))
	case n < 18:
		return revoke(a)
	case n < 25:
		return retype(d.one64(a, to(0)), b, d.one(1, 2, 2, 3, 4, 5), d.one(0, 0, 16, 32, 64))
	case n < 26:
		return read(a)
	case n < 27:
		return write(a, int64(d.upTo(9)))
	case n < 31:
		return send(d.one64(a, to(1)), int64(d.upTo(9)), maybe)
	case n < 35:
		return recv(d.one64(a, to(1)), maybe)
	case n < 36:
		return signal(a)
	case n < 37:
		return wait(a)
	case n < 39:
		return look(a)
	}
	return api.Call{Kind: d.one(-1, 0, 1, 4, 5, 12, 13, math.MaxInt), A: d.one64(a, 0), Rights: d.one(0, 16), Size: d.one(0, 3), Type: d.one(0, 9)}
}

func (d *dice) one64(l ...uint64) uint64 { return l[d.upTo(len(l))] }

// picks say in which order cores do steps: each in its own way.
func (d *dice) picks(cores, n int) []int {
	var l []int
	way, slow := d.upTo(4), d.upTo(cores)
	for len(l) < n {
		switch core := d.upTo(cores); {
		case way == 0:
			l = append(l, core)
		case way == 1: // in bursts
			l = append(l, slices.Repeat([]int{core}, 1+d.upTo(20))...)
		case way == 2: // round by round
			l = append(l, len(l)%cores)
		case core != slow || d.upTo(10) == 0: // one that is slow
			l = append(l, core)
		}
	}
	return l
}

// TestLongRuns: P19.2 to P19.9 behind each step of calls by several cores, P19.10 in the end.
func TestLongRuns(t *testing.T) {
	codes, kinds := map[api.Errno]int{}, [4]int{}
	again, waited := 0, 0
	for seed := range 40 {
		d := dice(seed*7919 + 1)
		cores, domains := 1+d.upTo(6), 1+d.upTo(3)
		x := set(t, cores, 2*domains+4+d.upTo(20), d.one(64, 256, 1024), domains)
		for range 4 {
			for core := range cores {
				for range 3 + d.upTo(8) {
					x.load(core, d.call())
				}
			}
			for _, core := range d.picks(cores, 400) {
				was := x.k.Phase(core)
				x.step(core)
				if now := x.k.Phase(core); was == api.CoUnlock && now == api.CoPlan && !x.k.state.Sweeps[core].On {
					again++
				} else if was == api.CoUnlock && now == api.CoWait {
					waited++
				}
			}
		}
		x.rounds()
		for _, s := range x.k.hist.Spans {
			if s.End != 0 {
				codes[s.Reply.Code]++
			}
		}
		for _, e := range x.k.hist.Events {
			kinds[e.Kind]++
		}
	}
	for _, e := range []api.Errno{0, 5, 7, 8, 20, 80, 120, 130, 150, 170, 172, 173} {
		if codes[e] < 2 {
			t.Error("too few", e, codes)
		}
	}
	if slices.Min(kinds[:]) < 40 || again < 20 || waited < 50 {
		t.Error("too few", kinds, again, waited)
	}
}

// TestManyCores: as many as there can be.
func TestManyCores(t *testing.T) {
	x := set(t, 64, 64, 4096, 4)
	d := dice(5)
	for core := range 64 {
		x.load(core, d.call(), d.call())
	}
	x.run(d.picks(64, 400))
	x.rounds()
	over := 0
	for _, s := range x.k.hist.Spans {
		if s.End != 0 {
			over++
		}
	}
	if over < 90 {
		t.Fatal("too few", over)
	}
}

// answers are all that a kernel answers at one time.
type answers struct {
	now    int
	hist   api.History
	state  api.State
	locks  []int64
	held   [][]int
	epochs api.Epochs
}

func (x *scene) ask() answers {
	a := answers{now: x.k.Now(), hist: x.k.Hist(), state: x.k.State(), locks: x.k.Locks(), epochs: x.k.Epochs()}
	for core := range x.cores() {
		a.held = append(a.held, x.k.Held(core))
	}
	return a
}

// TestAnswersStay: P19.6: what was answered is as it was behind all later steps, and as it is answered once more at one time.
func TestAnswersStay(t *testing.T) {
	d := dice(77)
	x := set(t, 3, 14, 256, 2)
	for core := range 3 {
		for range 12 {
			x.load(core, d.call())
		}
	}
	var kept []answers
	var texts []string
	for _, core := range d.picks(3, 500) {
		x.step(core)
		a := x.ask()
		kept = append(kept, a)
		texts = append(texts, fmt.Sprintf("%#v", a))
		if again := fmt.Sprintf("%#v", x.ask()); again != texts[len(texts)-1] {
			t.Fatal(again)
		}
	}
	x.rounds()
	for i, a := range kept {
		if text := fmt.Sprintf("%#v", a); text != texts[i] {
			t.Fatalf("%s has become %s", texts[i], text)
		}
	}
}

// spoil writes over all of a list, and over the room behind it.
func spoil[T any](l []T, with T) {
	l = l[:cap(l)]
	for i := range l {
		l[i] = with
	}
}

func spoilAll[T any](l [][]T, with T) {
	for _, one := range l {
		spoil(one, with)
	}
	spoil(l, nil)
}

// TestAnswersAreApart: the kernel does not see what is done to what it has answered.
func TestAnswersAreApart(t *testing.T) {
	d := dice(78)
	x := set(t, 4, 14, 256, 2)
	x.load(3, recv(to(1), to(2)))
	x.until(3, api.CoWait)
	queues := 0
	for core := range 3 {
		for range 12 {
			x.load(core, d.call())
		}
	}
	for _, core := range d.picks(3, 600) {
		x.step(core)
		a := x.ask()
		queues += len(a.state.Ports[4].Queue)
		spoil(a.locks, 99)
		spoilAll(a.held, 99)
		for _, e := range a.hist.Events {
			spoil(e.Replies, api.Done{Core: 9})
		}
		spoil(a.hist.Events, api.Event{Stamp: 9})
		spoil(a.hist.Spans, api.Span{Core: 9})
		spoil(a.epochs.Pins, 99)
		spoilAll(a.epochs.Limbo, api.Waste{Obj: 9})
		spoil(a.state.Arena.Things, api.Thing{Type: 9})
		spoilAll(a.state.Arena.Free, 9)
		spoilAll(a.state.Nodes, api.Cap{Obj: 9})
		spoil(a.state.Tree, api.Branch{Depth: 9})
		for _, p := range a.state.Ports {
			spoil(p.Queue, api.Waiter{Core: 9})
		}
		spoil(a.state.Ports, api.Port{Kind: 9})
		spoilAll(a.state.Limbo, 9)
		spoil(a.state.Roots, 9)
		spoil(a.state.Sweeps, api.Sweep{Lost: true})
		x.same()
	}
	if queues < 20 {
		t.Fatal("too few", queues)
	}
	x.rounds()
}

// TestTheSameTwice: rule 4: what a kernel answers hangs on its calls alone.
func TestTheSameTwice(t *testing.T) {
	text := func() string {
		d := dice(79)
		k, _ := New(4, 20, 256, 2)
		for core := range 4 {
			for range 20 {
				k.Load(core, d.call())
			}
		}
		n := k.Run(d.picks(4, 3000)...)
		return fmt.Sprintf("%d %#v %#v %#v %#v %v", n, k.Hist(), k.State(), k.Epochs(), k.Locks(), k.Held(0))
	}
	if one := text(); one != text() {
		t.Fatal(one)
	}
}

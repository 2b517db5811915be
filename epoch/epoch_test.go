package epoch

import (
	"fmt"
	"math"
	"slices"
	"testing"

	"garrison/api"
)

// The document's limits, written out.
const (
	mostCores = 64
	mostObjs  = 64
	mostLimbo = 8
	mostEpoch = 1099511627776
)

// ends are numbers at the ends of int, and such as are small again if bits of them are lost.
var ends = []int{math.MinInt, math.MinInt + 1, math.MinInt + 2, math.MaxInt, math.MaxInt - 1, math.MaxInt - 2,
	1 << 31, -1 << 31, 1 << 32, 1<<32 + 1, 1<<32 + 2, -1 << 32, 1 << 58, -1 << 58, 1 << 62, -1 << 62, 1<<62 + 1}

// of is an Epochs with no list that is not empty.
func of(now int64, pins ...int64) api.Epochs {
	return api.Epochs{Now: now, Pins: pins, Limbo: make([][]api.Waste, len(pins))}
}

// with is e, with that list at a core.
func with(e api.Epochs, core int, l ...api.Waste) api.Epochs {
	f := deep(e)
	f.Limbo[core] = l
	return f
}

// waits is a list with objects 10, 11 and so on, retired in these epochs.
func waits(epochs ...int64) []api.Waste {
	var l []api.Waste
	for i, n := range epochs {
		l = append(l, api.Waste{Obj: 10 + i, Epoch: n})
	}
	return l
}

func deep(e api.Epochs) api.Epochs {
	f := api.Epochs{Now: e.Now, Pins: append([]int64(nil), e.Pins...)}
	for _, l := range e.Limbo {
		f.Limbo = append(f.Limbo, append([]api.Waste(nil), l...))
	}
	return f
}

// like says whether the two are the same, with their lists' lengths alone told apart (nil is an empty list).
func like(a, b api.Epochs) bool {
	if a.Now != b.Now || len(a.Pins) != len(b.Pins) || len(a.Limbo) != len(b.Limbo) {
		return false
	}
	for i, pin := range a.Pins {
		if pin != b.Pins[i] {
			return false
		}
	}
	for i, l := range a.Limbo {
		if len(l) != len(b.Limbo[i]) {
			return false
		}
		for j, w := range l {
			if w.Obj != b.Limbo[i][j].Obj || w.Epoch != b.Limbo[i][j].Epoch {
				return false
			}
		}
	}
	return true
}

const filling = 99

// room is how much each list has behind it.
const room = 3

// roomy is e, with filled room behind each of its lists.
func roomy(e api.Epochs) api.Epochs {
	f := api.Epochs{Now: e.Now, Limbo: make([][]api.Waste, len(e.Limbo)+room)}
	f.Pins = slices.Concat(e.Pins, slices.Repeat([]int64{filling}, room))[:len(e.Pins)]
	for i := range f.Limbo {
		var l []api.Waste
		if i < len(e.Limbo) {
			l = e.Limbo[i]
		}
		f.Limbo[i] = slices.Concat(l, slices.Repeat([]api.Waste{{Obj: filling, Epoch: filling}}, room))[:len(l)]
	}
	f.Limbo = f.Limbo[:len(e.Limbo)]
	return f
}

// whole is e with the room behind each of its lists.
func whole(e api.Epochs) api.Epochs {
	f := api.Epochs{Now: e.Now, Pins: e.Pins[:cap(e.Pins)]}
	for _, l := range e.Limbo[:cap(e.Limbo)] {
		f.Limbo = append(f.Limbo, l[:cap(l)])
	}
	return f
}

// untouched says whether what roomy made of e is still so, its room too. The room that slices.Concat leaves beside the filling is 0 in both.
func untouched(r, e api.Epochs) bool { return like(r, e) && like(whole(r), whole(roomy(e))) }

// spoil writes to all lists of e, and to their room.
func spoil(e api.Epochs) {
	pins := e.Pins[:cap(e.Pins)]
	for i := range pins {
		pins[i] = -7
	}
	lists := e.Limbo[:cap(e.Limbo)]
	for i, l := range lists {
		l = l[:cap(l)]
		for j := range l {
			l[j] = api.Waste{Obj: -7, Epoch: -7}
		}
		lists[i] = nil
	}
}

// may is what the document says of Check. The pins are asked for with numbers that can't wrap: Now is small by then.
func may(e api.Epochs) bool {
	if len(e.Pins) < 1 || len(e.Pins) > mostCores || len(e.Limbo) != len(e.Pins) || e.Now < 1 || e.Now > mostEpoch {
		return false
	}
	for _, pin := range e.Pins {
		if !slices.Contains([]int64{0, e.Now, e.Now + 1}, pin) {
			return false
		}
	}
	for _, l := range e.Limbo {
		if len(l) > mostLimbo {
			return false
		}
		for i, w := range l {
			if w.Obj < 0 || w.Obj > mostObjs-1 || w.Epoch < 1 || w.Epoch > e.Now {
				return false
			}
			if i > 0 && l[i-1].Epoch > w.Epoch {
				return false
			}
		}
	}
	return true
}

func hasIt(e api.Epochs, core int) bool { return may(e) && core >= 0 && core <= len(e.Pins)-1 }

// pinned is what the document says of Pin.
func pinned(e api.Epochs, core int) (api.Epochs, api.Errno) {
	if !hasIt(e, core) {
		return e, api.ErrArg
	}
	if e.Pins[core] != 0 {
		return e, api.ErrThere
	}
	f := deep(e)
	f.Pins[core] = e.Now + 1
	return f, api.OK
}

// released is what the document says of Unpin.
func released(e api.Epochs, core int) (api.Epochs, api.Errno) {
	if !hasIt(e, core) {
		return e, api.ErrArg
	}
	if e.Pins[core] == 0 {
		return e, api.ErrNone
	}
	f := deep(e)
	f.Pins[core] = 0
	return f, api.OK
}

// thrown is what the document says of Retire.
func thrown(e api.Epochs, core, obj int) (api.Epochs, api.Errno) {
	if !hasIt(e, core) || obj < 0 || obj > mostObjs-1 {
		return e, api.ErrArg
	}
	if len(e.Limbo[core]) == mostLimbo {
		return e, api.ErrFull
	}
	f := deep(e)
	f.Limbo[core] = append(f.Limbo[core], api.Waste{Obj: obj, Epoch: e.Now})
	return f, api.OK
}

// moved is what the document says of Advance.
func moved(e api.Epochs) (api.Epochs, bool) {
	if !may(e) || e.Now >= mostEpoch {
		return e, false
	}
	for _, pin := range e.Pins {
		if pin != 0 && pin != e.Now+1 {
			return e, false
		}
	}
	f := deep(e)
	f.Now = e.Now + 1
	return f, true
}

// taken is what the document says of Reap.
func taken(e api.Epochs, core int) (api.Epochs, []int) {
	if !hasIt(e, core) {
		return e, nil
	}
	f, gone := deep(e), []int(nil)
	f.Limbo[core] = nil
	for _, w := range e.Limbo[core] {
		if w.Epoch <= e.Now-2 {
			gone = append(gone, w.Obj)
		} else {
			f.Limbo[core] = append(f.Limbo[core], w)
		}
	}
	return f, gone
}

// nows are epochs at the edges.
var nows = []int64{1, 2, 3, 4, 5, 1 << 31, 1 << 32, 1<<32 + 1, mostEpoch - 2, mostEpoch - 1, mostEpoch}

// lists are some that may be in limbo, if it is that epoch now.
func lists(now int64) [][]api.Waste {
	l := [][]api.Waste{nil, {}}
	for _, n := range []int64{now - 3, now - 2, now - 1, now} {
		if n < 1 {
			continue
		}
		l = append(l, waits(n), []api.Waste{{Obj: 0, Epoch: 1}, {Obj: mostObjs - 1, Epoch: n}})
		l = append(l, waits(slices.Repeat([]int64{n}, mostLimbo-1)...), waits(slices.Repeat([]int64{n}, mostLimbo)...))
		if n > 1 {
			l = append(l, waits(n-1, n-1, n), waits(1, n-1, n, n, now), []api.Waste{{Obj: 5, Epoch: n - 1}, {Obj: 5, Epoch: n}, {Obj: 4, Epoch: now}})
		}
	}
	return l
}

// good are Epochs that may be: each edge of Now, with each pin of up to two cores, and lists at either; and many cores.
func good() []api.Epochs {
	var all []api.Epochs
	for _, now := range nows {
		pins := []int64{0, now, now + 1}
		for _, p := range pins {
			all = append(all, of(now, p))
			for _, q := range pins {
				for _, l := range lists(now) {
					all = append(all, with(of(now, p, q), 0, l...), with(of(now, p, q), 1, l...))
				}
				all = append(all, with(with(of(now, p, q, 0), 0, waits(now)...), 2, waits(1, now)...))
			}
		}
		most := of(now, slices.Repeat([]int64{0}, mostCores)...)
		for core := range mostCores {
			most = with(most, core, waits(slices.Repeat([]int64{now}, mostLimbo)...)...)
		}
		all = append(all, most, of(now, slices.Repeat([]int64{now}, mostCores-1)...))
	}
	return all
}

// bad are Epochs that may not be: each has one thing amiss, at the first, the middle or the last of three cores, or all that can be at once.
func bad() []api.Epochs {
	all := []api.Epochs{
		{}, {Now: 1}, {Now: 1, Pins: []int64{}, Limbo: [][]api.Waste{}},
		{Now: 1, Pins: []int64{0}}, {Now: 1, Limbo: [][]api.Waste{nil}}, {Pins: []int64{0}, Limbo: [][]api.Waste{nil}},
		{Now: 1, Pins: []int64{0, 0}, Limbo: [][]api.Waste{nil}}, {Now: 1, Pins: []int64{0}, Limbo: [][]api.Waste{nil, nil}},
		{Now: 1, Pins: make([]int64, mostCores), Limbo: make([][]api.Waste, mostCores+1)},
		{Now: 1, Pins: make([]int64, mostCores+1), Limbo: make([][]api.Waste, mostCores)},
		{Now: 1, Pins: make([]int64, mostCores), Limbo: make([][]api.Waste, mostCores-1)},
		of(1, make([]int64, mostCores+1)...), of(1, make([]int64, 1000)...),
		of(0, 0, 0), of(0, 1), of(-1, 0), of(-1, 0, -1), of(mostEpoch+1, 0), of(mostEpoch+1, mostEpoch+1, mostEpoch+2),
	}
	for _, n := range ends {
		now := int64(n)
		if now < 1 || now > mostEpoch {
			all = append(all, of(now, 0), of(now, now, now+1, now-1), with(of(now, 0), 0, waits(now)...), with(of(now, 0), 0, waits(now, now+1)...))
		}
		all = append(all, of(4, int64(n)), of(mostEpoch, 0, int64(n)))
	}
	for _, now := range nows {
		for core := range 3 {
			for _, pin := range []int64{-1, 1, now - 1, now + 2, -now, -now - 1, mostEpoch + 2} {
				e := of(now, 0, now, now+1)
				e.Pins[core] = pin
				if pin != 0 && pin != now && pin != now+1 {
					all = append(all, e)
				}
			}
			all = append(all, badLists(of(now, 0, now, now+1), core)...)
		}
	}
	return all
}

// badLists are e with lists at a core that may not be in limbo.
func badLists(e api.Epochs, core int) []api.Epochs {
	now := e.Now
	lists := [][]api.Waste{
		waits(slices.Repeat([]int64{now}, mostLimbo+1)...), waits(slices.Repeat([]int64{1}, 100)...),
		waits(0), waits(-1), waits(now + 1), waits(0, now), waits(1, now+1), waits(1, now, now+1, now),
		{{Obj: -1, Epoch: 1}}, {{Obj: mostObjs, Epoch: 1}}, {{Obj: 1, Epoch: 1}, {Obj: mostObjs, Epoch: now}}, {{Obj: -1, Epoch: 1}, {Obj: 1, Epoch: now}},
	}
	if now > 1 {
		lists = append(lists, waits(now, now-1), waits(2, 1), waits(1, now, now-1), waits(now, now, 1), waits(1, 2, 1, 2), waits(now, 1, now))
	}
	for _, n := range ends {
		lists = append(lists, []api.Waste{{Obj: n, Epoch: 1}}, []api.Waste{{Obj: 1, Epoch: 1}, {Obj: n, Epoch: now}}, []api.Waste{{Obj: n, Epoch: int64(n)}})
		if n < 1 || int64(n) > now {
			lists = append(lists, waits(int64(n)), waits(1, int64(n)))
		}
	}
	var all []api.Epochs
	for _, l := range lists {
		all = append(all, with(e, core, l...))
	}
	return all
}

// cores are the numbers to try as a core of e: each of the first ones, the edges and the ends of int.
func cores(e api.Epochs) []int {
	l := append([]int{-2, -1, 0, 1, 2, len(e.Pins) - 1, len(e.Pins), len(e.Pins) + 1, mostCores - 1, mostCores}, ends...)
	slices.Sort(l)
	return slices.Compact(l)
}

// objs are the numbers to try as a place.
var objs = append([]int{-2, -1, 0, 1, 31, mostObjs - 2, mostObjs - 1, mostObjs, mostObjs + 1, 1023}, ends...)

// TestLimits: the document's.
func TestLimits(t *testing.T) {
	if api.MaxCores != mostCores || api.MaxObjs != mostObjs || api.MaxLimbo != mostLimbo || api.MaxEpoch != mostEpoch {
		t.Fatal("limits")
	}
}

// TestNew: P11.1, of each number of cores, and of such as may not be.
func TestNew(t *testing.T) {
	for n := 1; n <= mostCores; n++ {
		e, x := New(n)
		want := api.Epochs{Now: 1, Pins: make([]int64, n), Limbo: make([][]api.Waste, n)}
		if x != api.OK || len(e.Pins) != n || len(e.Limbo) != n || !like(e, want) || Check(e) != api.OK {
			t.Fatal(n, e, x)
		}
		spoil(e)
		if f, _ := New(n); !like(f, want) {
			t.Fatal("New's answers share memory", n, f)
		}
	}
	for _, n := range append([]int{0, -1, -2, -mostCores, mostCores + 1, mostCores + 2, 1000}, ends...) {
		if e, x := New(n); x != api.ErrArg || e.Now != 0 || e.Pins != nil || e.Limbo != nil {
			t.Fatal(n, e, x)
		}
	}
}

// TestCheckTable: P11.1, written out.
func TestCheckTable(t *testing.T) {
	for _, c := range []struct {
		e    api.Epochs
		want api.Errno
	}{
		{api.Epochs{}, api.ErrArg},
		{of(1, 0), api.OK},
		{of(1), api.ErrArg},
		{of(1, make([]int64, mostCores)...), api.OK},
		{of(1, make([]int64, mostCores+1)...), api.ErrArg},
		{of(0, 0), api.ErrArg},
		{of(0, 0, 1), api.ErrArg},
		{of(mostEpoch, 0, mostEpoch, mostEpoch+1), api.OK},
		{of(mostEpoch+1, 0), api.ErrArg},
		{of(1, 1, 2), api.OK},
		{of(1, 3), api.ErrArg},
		{of(5, 0, 5, 6), api.OK},
		{of(5, 4), api.ErrArg},
		{of(5, 7), api.ErrArg},
		{of(5, 0, -5), api.ErrArg},
		{with(of(3, 0, 0), 1, waits(1, 1, 2, 3, 3)...), api.OK},
		{with(of(3, 0, 0), 1, waits(1, 2, 1)...), api.ErrArg},
		{with(of(3, 0, 0), 1, waits(4)...), api.ErrArg},
		{with(of(3, 0, 0), 1, waits(0)...), api.ErrArg},
		{with(of(3, 0, 0), 1, waits(1, 1, 1, 1, 1, 1, 1, 1)...), api.OK},
		{with(of(3, 0, 0), 1, waits(1, 1, 1, 1, 1, 1, 1, 1, 1)...), api.ErrArg},
		{with(of(3, 0), 0, api.Waste{Obj: 0, Epoch: 1}, api.Waste{Obj: 63, Epoch: 1}, api.Waste{Obj: 0, Epoch: 1}), api.OK},
		{with(of(3, 0), 0, api.Waste{Obj: -1, Epoch: 1}), api.ErrArg},
		{with(of(3, 0), 0, api.Waste{Obj: 64, Epoch: 1}), api.ErrArg},
		{with(with(of(3, 0, 0), 0, waits(3)...), 1, waits(1)...), api.OK}, // each list for itself does not fall
		{api.Epochs{Now: 1, Pins: []int64{0, 0}, Limbo: [][]api.Waste{nil}}, api.ErrArg},
		{api.Epochs{Now: 1, Pins: []int64{0}, Limbo: [][]api.Waste{nil, nil}}, api.ErrArg},
		{api.Epochs{Now: 1, Pins: []int64{0}, Limbo: [][]api.Waste{{}}}, api.OK},
		{api.Epochs{Now: 1, Pins: []int64{0}}, api.ErrArg},
	} {
		if got := Check(c.e); got != c.want {
			t.Error(c.e, got)
		}
	}
}

// TestCheck: P11.1, of all that may be and may not be here.
func TestCheck(t *testing.T) {
	for _, e := range good() {
		if r := roomy(e); Check(r) != api.OK || !untouched(r, e) {
			t.Fatal(e)
		}
	}
	for _, e := range bad() {
		if r := roomy(e); Check(r) != api.ErrArg || !untouched(r, e) {
			t.Fatal(e)
		}
	}
}

// small calls do with all Epochs of one or two cores with Now of 0 to 4, pins of -1 to 6, and lists of up to three elements of Epoch 0 to Now + 1 at the last core.
func small(do func(api.Epochs)) {
	for now := int64(0); now <= 4; now++ {
		kinds := int(now) + 2
		for p := int64(-1); p <= 6; p++ {
			for n := range 4 {
				for k := range power(kinds, n) {
					var l []int64
					for range n {
						l = append(l, int64(k%kinds))
						k /= kinds
					}
					do(with(of(now, p), 0, waits(l...)...))
					do(with(of(now, p, now+1), 1, waits(l...)...))
					do(with(of(now, 0, p), 1, waits(l...)...))
				}
			}
		}
	}
}

func power(base, n int) int {
	all := 1
	for range n {
		all *= base
	}
	return all
}

// TestSmall: P11.1 to P11.4, of all small Epochs.
func TestSmall(t *testing.T) {
	taking := 0
	small(func(e api.Epochs) {
		if (Check(e) == api.OK) != may(e) {
			t.Fatal(e, Check(e))
		}
		if may(e) {
			taking++
		}
		core := len(e.Pins) - 1
		was := deep(e)
		checkOne(t, "Pin", e, was, core, Pin, pinned)
		checkOne(t, "Unpin", e, was, core, Unpin, released)
		checkOne(t, "Retire", e, was, core, retireOf(5), thrownOf(5))
		checkAdvance(t, e, was)
		checkReap(t, e, was, core)
	})
	if taking < 500 {
		t.Fatal("too few may be:", taking)
	}
}

type step = func(api.Epochs, int) (api.Epochs, api.Errno)

func retireOf(obj int) step {
	return func(e api.Epochs, core int) (api.Epochs, api.Errno) { return Retire(e, core, obj) }
}

func thrownOf(obj int) step {
	return func(e api.Epochs, core int) (api.Epochs, api.Errno) { return thrown(e, core, obj) }
}

func checkOne(t *testing.T, name string, e, was api.Epochs, core int, got, want step) {
	t.Helper()
	f, x := got(e, core)
	g, y := want(was, core)
	if x != y || !like(f, g) || !like(e, was) {
		t.Fatal(name, was, core, "answers", f, x, "not", g, y, "behind it", e)
	}
}

func checkAdvance(t *testing.T, e, was api.Epochs) {
	t.Helper()
	f, ok := Advance(e)
	g, yes := moved(was)
	if ok != yes || !like(f, g) || !like(e, was) {
		t.Fatal("Advance", was, "answers", f, ok, "not", g, yes, "behind it", e)
	}
}

func checkReap(t *testing.T, e, was api.Epochs, core int) {
	t.Helper()
	f, l := Reap(e, core)
	g, m := taken(was, core)
	if !slices.Equal(l, m) || !like(f, g) || !like(e, was) {
		t.Fatal("Reap", was, core, "answers", f, l, "not", g, m, "behind it", e)
	}
}

// TestCalls: P11.2 to P11.4, of all Epochs that may be and that may not, with each core and place at the edges and at the ends of int.
func TestCalls(t *testing.T) {
	for i, e := range slices.Concat(good(), bad()) {
		was := deep(e)
		checkAdvance(t, e, was)
		for j, core := range cores(e) {
			checkOne(t, "Pin", e, was, core, Pin, pinned)
			checkOne(t, "Unpin", e, was, core, Unpin, released)
			checkReap(t, e, was, core)
			for k, obj := range objs {
				// All places at the cores that are there; of the others, one place each in its turn.
				if core >= 0 && core < 3 || (i+j)%len(objs) == k {
					checkOne(t, fmt.Sprint("Retire ", obj), e, was, core, retireOf(obj), thrownOf(obj))
				}
			}
		}
	}
}

// TestRoom: rule 3: what is handed in is as it was behind each call, its room too, and answers share no memory with it, or with one another.
func TestRoom(t *testing.T) {
	calls := []func(api.Epochs) (api.Epochs, any){
		func(e api.Epochs) (api.Epochs, any) { f, x := Pin(e, 0); return f, x },
		func(e api.Epochs) (api.Epochs, any) { f, x := Unpin(e, 0); return f, x },
		func(e api.Epochs) (api.Epochs, any) { f, x := Retire(e, 0, 7); return f, x },
		func(e api.Epochs) (api.Epochs, any) { f, x := Retire(e, 1, 64); return f, x },
		func(e api.Epochs) (api.Epochs, any) { f, ok := Advance(e); return f, ok },
		func(e api.Epochs) (api.Epochs, any) { f, l := Reap(e, 0); return f, fmt.Sprint(l) },
		func(e api.Epochs) (api.Epochs, any) { f, l := Reap(e, 1); return f, fmt.Sprint(l) },
		func(e api.Epochs) (api.Epochs, any) { f, l := Reap(e, -1); return f, fmt.Sprint(l) },
	}
	for _, e := range slices.Concat(good(), bad()) {
		for i, call := range calls {
			r := roomy(e)
			f, x := call(r)
			if !untouched(r, e) {
				t.Fatal("call", i, "changed", e)
			}
			g, y := call(r)
			if x != y || !like(f, g) {
				t.Fatal("call", i, "answers", x, y, e)
			}
			h := deep(g)
			spoil(f)
			if !untouched(r, e) || !like(g, h) {
				t.Fatal("call", i, "shares memory", e)
			}
			spoil(r)
			if !like(g, h) {
				t.Fatal("call", i, "keeps what it was handed", e)
			}
		}
		if !apartFromEachOther(e) {
			t.Fatal("lists of one answer share memory", e)
		}
	}
}

// apartFromEachOther says whether one more element behind a list of an answer is to be seen in that list alone.
func apartFromEachOther(e api.Epochs) bool {
	f, _ := Reap(e, 0)
	was := deep(f)
	for i, l := range f.Limbo {
		l = append(l, slices.Repeat([]api.Waste{{Obj: filling}}, room)...)
		if !like(f, was) {
			return false
		}
		f.Limbo[i] = l
		was = deep(f)
	}
	return true
}

// TestReapedOwn: rule 3: the Objs that are reaped are a list of its own.
func TestReapedOwn(t *testing.T) {
	e := with(of(9, 0), 0, waits(1, 2, 3, 9)...)
	f, l := Reap(e, 0)
	_, m := Reap(e, 0)
	was := deep(f)
	l = l[:cap(l)]
	for i := range l {
		l[i] = -7
	}
	if !slices.Equal(m, []int{10, 11, 12}) || !like(f, was) || !like(e, with(of(9, 0), 0, waits(1, 2, 3, 9)...)) {
		t.Fatal(m, f, e)
	}
}

// TestSame: P11.1, of each pair of some that may be and may not; nil is an empty list.
func TestSame(t *testing.T) {
	base := with(with(of(4, 0, 5), 0, waits(1, 2)...), 1, waits(4)...)
	all := []api.Epochs{base, {}, of(1), of(1, 0), of(2, 0), of(1, 0, 0), {Now: 1, Pins: []int64{0}}, {Now: 1, Limbo: [][]api.Waste{nil}}, {Now: 1, Pins: []int64{0}, Limbo: [][]api.Waste{nil, nil}}}
	all = append(all, with(base, 0), with(base, 1), with(base, 0, waits(1)...), with(base, 0, waits(2, 1)...), with(base, 0, waits(1, 2, 2)...), with(base, 1, waits(3)...))
	all = append(all, with(with(base, 0, waits(4)...), 1, waits(1, 2)...), with(base, 0, api.Waste{Obj: 10, Epoch: 1}, api.Waste{Obj: 12, Epoch: 2}))
	for _, now := range []int64{3, 5, -4, 4 + 1<<32, math.MinInt64, math.MaxInt64} {
		e := deep(base)
		e.Now = now
		f := deep(base)
		f.Pins[1] = now + 1
		g := deep(base)
		g.Pins[0] = now
		all = append(all, e, f, g, with(base, 0, api.Waste{Obj: int(now), Epoch: 1}, api.Waste{Obj: 11, Epoch: 2}), with(base, 1, api.Waste{Obj: 10, Epoch: now}))
	}
	fewer := deep(base)
	fewer.Limbo = fewer.Limbo[:1]
	more := deep(base)
	more.Limbo = append(more.Limbo, nil)
	fewerPins := deep(base)
	fewerPins.Pins = fewerPins.Pins[:1]
	all = append(all, fewer, more, fewerPins)
	for i, e := range all {
		for j, f := range all {
			if got := Same(e, f); got != like(e, f) || (i == j) && !got {
				t.Fatal(e, f, got)
			}
		}
		r := roomy(e)
		if !Same(r, deep(e)) || !Same(deep(e), r) || !untouched(r, e) {
			t.Fatal("room is told", e)
		}
	}
}

// TestSameNil: P11.1: nil and an empty list are the same, of Pins, Limbo and each list.
func TestSameNil(t *testing.T) {
	a := api.Epochs{Now: 1, Pins: []int64{0, 0}, Limbo: [][]api.Waste{nil, {}}}
	b := api.Epochs{Now: 1, Pins: []int64{0, 0}, Limbo: [][]api.Waste{{}, nil}}
	if !Same(a, b) || !Same(api.Epochs{}, api.Epochs{Pins: []int64{}, Limbo: [][]api.Waste{}}) || !Same(api.Epochs{Pins: []int64{}}, api.Epochs{}) {
		t.Fatal("nil")
	}
	if Same(api.Epochs{Limbo: [][]api.Waste{nil}}, api.Epochs{}) || Same(api.Epochs{Limbo: [][]api.Waste{{}}}, api.Epochs{Limbo: [][]api.Waste{{}, {}}}) {
		t.Fatal("how many lists there are is told")
	}
}

// TestPins: P11.2, written out.
func TestPins(t *testing.T) {
	for _, c := range []struct {
		e    api.Epochs
		core int
		pin  []int64 // behind Pin
		x    api.Errno
		free []int64 // behind Unpin
		y    api.Errno
	}{
		{of(1, 0), 0, []int64{2}, api.OK, []int64{0}, api.ErrNone},
		{of(5, 0, 5, 6), 0, []int64{6, 5, 6}, api.OK, []int64{0, 5, 6}, api.ErrNone},
		{of(5, 0, 5, 6), 1, []int64{0, 5, 6}, api.ErrThere, []int64{0, 0, 6}, api.OK},
		{of(5, 0, 5, 6), 2, []int64{0, 5, 6}, api.ErrThere, []int64{0, 5, 0}, api.OK},
		{of(5, 0, 5, 6), 3, []int64{0, 5, 6}, api.ErrArg, []int64{0, 5, 6}, api.ErrArg},
		{of(5, 0, 5, 6), -1, []int64{0, 5, 6}, api.ErrArg, []int64{0, 5, 6}, api.ErrArg},
		{of(mostEpoch, 0, mostEpoch), 0, []int64{mostEpoch + 1, mostEpoch}, api.OK, []int64{0, mostEpoch}, api.ErrNone},
		{of(5, 0, 4), 0, []int64{0, 4}, api.ErrArg, []int64{0, 4}, api.ErrArg},
		{of(5, 0, 4), 1, []int64{0, 4}, api.ErrArg, []int64{0, 4}, api.ErrArg},
		{of(0, 0), 0, []int64{0}, api.ErrArg, []int64{0}, api.ErrArg},
	} {
		f, x := Pin(c.e, c.core)
		g, y := Unpin(c.e, c.core)
		if x != c.x || y != c.y || !like(f, of(c.e.Now, c.pin...)) || !like(g, of(c.e.Now, c.free...)) {
			t.Error(c.e, c.core, f, x, g, y)
		}
	}
}

// TestRetire: P11.3, written out: the errors' order, and what is behind the list.
func TestRetire(t *testing.T) {
	full := with(of(3, 0, 4), 0, waits(1, 1, 1, 1, 1, 1, 1, 3)...)
	for _, c := range []struct {
		e         api.Epochs
		core, obj int
		want      api.Epochs
		x         api.Errno
	}{
		{of(3, 0, 4), 1, 0, with(of(3, 0, 4), 1, api.Waste{Obj: 0, Epoch: 3}), api.OK},
		{of(3, 0, 4), 0, 63, with(of(3, 0, 4), 0, api.Waste{Obj: 63, Epoch: 3}), api.OK},
		{of(3, 0, 4), 0, 64, of(3, 0, 4), api.ErrArg},
		{of(3, 0, 4), 0, -1, of(3, 0, 4), api.ErrArg},
		{of(3, 0, 4), 2, 1, of(3, 0, 4), api.ErrArg},
		{of(3, 0, 4), -1, 1, of(3, 0, 4), api.ErrArg},
		{of(mostEpoch, 0), 0, 1, with(of(mostEpoch, 0), 0, api.Waste{Obj: 1, Epoch: mostEpoch}), api.OK},
		{with(of(3, 0), 0, waits(1, 3)...), 0, 10, with(of(3, 0), 0, append(waits(1, 3), api.Waste{Obj: 10, Epoch: 3})...), api.OK},
		{with(of(3, 0), 0, waits(1, 1, 1, 1, 1, 1, 1)...), 0, 17, with(of(3, 0), 0, waits(1, 1, 1, 1, 1, 1, 1, 3)...), api.OK},
		{full, 0, 1, full, api.ErrFull},
		{full, 0, 64, full, api.ErrArg},
		{full, 0, -1, full, api.ErrArg},
		{full, 2, 1, full, api.ErrArg},
		{full, 1, 1, with(full, 1, api.Waste{Obj: 1, Epoch: 3}), api.OK},
		{with(of(3, 2), 0, waits(1, 1, 1, 1, 1, 1, 1, 1)...), 0, 1, with(of(3, 2), 0, waits(1, 1, 1, 1, 1, 1, 1, 1)...), api.ErrArg},
	} {
		if f, x := Retire(c.e, c.core, c.obj); x != c.x || !like(f, c.want) {
			t.Error(c.e, c.core, c.obj, f, x)
		}
	}
}

// TestAdvance: P11.4, written out.
func TestAdvance(t *testing.T) {
	for _, c := range []struct {
		e    api.Epochs
		want bool
	}{
		{of(1, 0), true},
		{of(1, 2, 2), true},
		{of(1, 1), false},
		{of(5, 0, 6, 0), true},
		{of(5, 5, 6, 0), false},
		{of(5, 6, 0, 5), false},
		{of(5, 6, 5, 6), false},
		{of(5, 4), false},
		{of(5, 7), false},
		{of(0, 0), false},
		{api.Epochs{}, false},
		{of(mostEpoch-1, 0, mostEpoch), true},
		{of(mostEpoch-1, 0, mostEpoch-1), false},
		{of(mostEpoch, 0), false},
		{of(mostEpoch, mostEpoch+1), false},
		{of(mostEpoch+1, 0), false},
		{of(math.MaxInt64, 0), false},
		{of(math.MaxInt64, math.MinInt64), false},
	} {
		want := deep(c.e)
		if c.want {
			want.Now++
		}
		if f, ok := Advance(c.e); ok != c.want || !like(f, want) {
			t.Error(c.e, f, ok)
		}
	}
}

// TestReap: P11.4, written out.
func TestReap(t *testing.T) {
	for _, c := range []struct {
		now         int64
		list, stays []api.Waste
		gone        []int
	}{
		{5, nil, nil, nil},
		{5, waits(2), nil, []int{10}},
		{5, waits(3), nil, []int{10}},
		{5, waits(4), waits(4), nil},
		{5, waits(5), waits(5), nil},
		{5, waits(2, 3, 4, 5), waits(2, 3, 4, 5)[2:], []int{10, 11}},
		{5, waits(1, 1, 2, 2, 3, 3, 3, 3), nil, []int{10, 11, 12, 13, 14, 15, 16, 17}},
		{5, waits(4, 4, 4, 4, 5, 5, 5, 5), waits(4, 4, 4, 4, 5, 5, 5, 5), nil},
		{5, []api.Waste{{Obj: 9, Epoch: 1}, {Obj: 0, Epoch: 1}, {Obj: 9, Epoch: 3}, {Obj: 9, Epoch: 4}}, []api.Waste{{Obj: 9, Epoch: 4}}, []int{9, 0, 9}},
		{1, waits(1), waits(1), nil},
		{2, waits(1, 2), waits(1, 2), nil},
		{3, waits(1, 2, 3), waits(1, 2, 3)[1:], []int{10}},
		{mostEpoch, waits(1, mostEpoch-2, mostEpoch-1, mostEpoch), waits(1, 1, mostEpoch-1, mostEpoch)[2:], []int{10, 11}},
	} {
		// The other core's list and the pins have no part in it.
		e := with(with(of(c.now, 0, c.now, c.now+1), 1, c.list...), 2, waits(1)...)
		want := with(e, 1, c.stays...)
		if f, l := Reap(e, 1); !like(f, want) || !slices.Equal(l, c.gone) {
			t.Error(e, f, l)
		}
		for _, core := range []int{-1, 3, math.MinInt, math.MaxInt} {
			if f, l := Reap(e, core); !like(f, e) || len(l) != 0 {
				t.Error(e, core, f, l)
			}
		}
		e.Pins[0] = -1
		if f, l := Reap(e, 1); !like(f, e) || len(l) != 0 {
			t.Error(e, f, l)
		}
	}
}

// TestExample: the chapter's.
func TestExample(t *testing.T) {
	e, _ := New(2)
	e, _ = Pin(e, 0)
	e, x := Retire(e, 1, 5)
	e, ok := Advance(e)
	if x != api.OK || !ok {
		t.Fatal(e, x, ok)
	}
	if f, ok := Advance(e); ok || !Same(e, f) {
		t.Fatal("core 0 is an epoch behind", f)
	}
	e, _ = Unpin(e, 0)
	e, ok = Advance(e)
	f, l := Reap(e, 1)
	if !ok || !slices.Equal(l, []int{5}) || !like(f, of(3, 0, 0)) {
		t.Fatal(f, l, ok)
	}
}

// world is Epochs, and for each object that waits, which cores have been pinned since it was retired: bits of them.
type world struct {
	e    api.Epochs
	seen [mostObjs]int
	next int // the object that is retired next
}

// tell is a text of all that a world is.
func (w world) tell() string { return fmt.Sprint(w.e, w.seen[:w.next], w.next) }

// after are the worlds one call on, of two cores; ok is false where what a pinned core may see was reaped.
func (w world) after() (all []world, ok bool) {
	for core := range 2 {
		if e, x := Pin(w.e, core); x == api.OK {
			all = append(all, world{e, w.seen, w.next})
		}
		if e, x := Unpin(w.e, core); x == api.OK {
			f := world{e, w.seen, w.next}
			for obj := range f.seen {
				f.seen[obj] &^= 1 << core
			}
			all = append(all, f)
		}
		if e, x := Retire(w.e, core, w.next); x == api.OK && w.next < 3 {
			f := world{e, w.seen, w.next + 1}
			for other, pin := range w.e.Pins {
				if pin != 0 {
					f.seen[w.next] |= 1 << other
				}
			}
			all = append(all, f)
		}
		e, l := Reap(w.e, core)
		for _, obj := range l {
			if w.seen[obj] != 0 {
				return nil, false
			}
		}
		if len(l) > 0 {
			all = append(all, world{e, w.seen, w.next})
		}
	}
	if e, ok := Advance(w.e); ok {
		all = append(all, world{e, w.seen, w.next})
	}
	return all, true
}

// TestNobodySees: P11.5, of all orders of 10 calls of two cores with up to three objects; what is answered always passes Check.
func TestNobodySees(t *testing.T) {
	e, _ := New(2)
	now, seen := []world{{e: e}}, map[string]int{}
	reaped := 0
	for range 10 {
		var next []world
		for _, w := range now {
			all, ok := w.after()
			if !ok {
				t.Fatal("reaped, and a core may see it", w.e, w.seen[:w.next])
			}
			for _, f := range all {
				if Check(f.e) != api.OK {
					t.Fatal(w.e, f.e)
				}
				if seen[f.tell()]++; seen[f.tell()] == 1 {
					next = append(next, f)
				}
				if waiting(f.e) < f.next {
					reaped++
				}
			}
		}
		now = next
	}
	if reaped < 100 {
		t.Fatal("too few were reaped:", reaped)
	}
}

func waiting(e api.Epochs) int {
	n := 0
	for _, l := range e.Limbo {
		n += len(l)
	}
	return n
}

// TestHeldBack: P11.5, with many cores: whoever of them is pinned, what another retires then stays, however often Advance is called.
func TestHeldBack(t *testing.T) {
	for who := range mostCores {
		for _, before := range []int{0, 1} {
			e, _ := New(mostCores)
			e, _ = Pin(e, who)
			for range before {
				e, _ = Advance(e)
			}
			other := (who + 1) % mostCores
			e, _ = Retire(e, other, 7)
			for range 5 {
				e, _ = Advance(e)
				if _, l := Reap(e, other); len(l) != 0 {
					t.Fatal(who, before, l)
				}
			}
			e, _ = Unpin(e, who)
			e, _ = Advance(e)
			e, _ = Advance(e)
			if _, l := Reap(e, other); !slices.Equal(l, []int{7}) {
				t.Fatal(who, before, l)
			}
		}
	}
}

// TestTheyGo: P11.6, of all that may be here, with no core pinned: two Advances are enough, and for what was retired now one is not.
func TestTheyGo(t *testing.T) {
	tried := 0
	for _, e := range good() {
		for core := range e.Pins {
			e, _ = Unpin(e, core)
		}
		if e.Now > mostEpoch-2 {
			continue
		}
		tried++
		once, ok := Advance(e)
		twice, yes := Advance(once)
		if !ok || !yes {
			t.Fatal(e, ok, yes)
		}
		for core, l := range e.Limbo {
			stay, _ := Reap(once, core)
			fresh := slices.ContainsFunc(l, func(w api.Waste) bool { return w.Epoch == e.Now })
			if fresh != (len(stay.Limbo[core]) > 0) {
				t.Fatal("one Advance", e, stay)
			}
			var gone []int
			twice, gone = Reap(twice, core)
			if len(gone) != len(l) || len(twice.Limbo[core]) != 0 {
				t.Fatal(e, core, gone)
			}
		}
		if waiting(twice) != 0 {
			t.Fatal(twice)
		}
	}
	if tried < 100 {
		t.Fatal("too few:", tried)
	}
}

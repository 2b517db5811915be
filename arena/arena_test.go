package arena

import (
	"math"
	"reflect"
	"slices"
	"testing"

	"garrison/api"
)

// ends are numbers at the ends of int, and such as are small again if bits of them are lost.
var ends = []int{math.MinInt, math.MinInt + 1, math.MaxInt, math.MaxInt - 1, 1 << 31, -1 << 31, 1 << 32, 1<<32 + 1, -1 << 32, 1 << 58, -1 << 58, 1 << 62, -1 << 62}

// full is an object with a value in each field.
var full = api.Thing{Type: api.TyUntyped, Gen: 9, Refs: 7, Start: 16, Size: 64, Water: 8, From: 3, Value: -5}

// empty is what is at a place that was not used yet.
var empty = api.Thing{From: -1}

// of is n places that were not used yet.
func of(n int) []api.Thing {
	l := make([]api.Thing, n)
	for i := range l {
		l[i] = empty
	}
	return l
}

// with is an object of a type with so many Refs, used so many times before.
func with(typ, gen, refs int) api.Thing { return api.Thing{Type: typ, Gen: gen, Refs: refs, From: -1} }

func deep(a api.Arena) api.Arena {
	b := api.Arena{Things: append([]api.Thing(nil), a.Things...)}
	for _, l := range a.Free {
		b.Free = append(b.Free, append([]int(nil), l...))
	}
	return b
}

// like says whether the two are the same, with their lists' lengths alone told apart (nil is an empty list).
func like(a, b api.Arena) bool { return reflect.DeepEqual(deep(a), deep(b)) }

const filling = 99

// room is how much each list has behind it.
const room = 3

// roomy is a, with filled room behind each of its lists.
func roomy(a api.Arena) api.Arena {
	b := api.Arena{Things: make([]api.Thing, len(a.Things)+room), Free: make([][]int, len(a.Free)+room)}
	for i := range b.Things {
		b.Things[i] = api.Thing{Type: filling, Gen: filling, Refs: filling}
	}
	copy(b.Things, a.Things)
	b.Things = b.Things[:len(a.Things)]
	for i := range b.Free {
		var l []int
		if i < len(a.Free) {
			l = a.Free[i]
		}
		b.Free[i] = slices.Concat(l, slices.Repeat([]int{filling}, room))[:len(l)]
	}
	b.Free = b.Free[:len(a.Free)]
	return b
}

// whole is an arena with the room behind each of its lists.
func whole(a api.Arena) api.Arena {
	b := api.Arena{Things: a.Things[:cap(a.Things)]}
	for _, l := range a.Free[:cap(a.Free)] {
		b.Free = append(b.Free, l[:cap(l)])
	}
	return b
}

// untouched says whether an arena that roomy made is still a, and its room too.
func untouched(r, a api.Arena) bool { return like(r, a) && like(whole(r), whole(roomy(a))) }

// spoil writes to all lists of an arena, and to their room.
func spoil(a api.Arena) {
	for _, l := range a.Free[:cap(a.Free)] {
		l = l[:cap(l)]
		for i := range l {
			l[i] = -7
		}
	}
	for i := range a.Free[:cap(a.Free)] {
		a.Free[:cap(a.Free)][i] = []int{-8}
	}
	for i := range a.Things[:cap(a.Things)] {
		a.Things[:cap(a.Things)][i] = api.Thing{Type: -9, Gen: -9}
	}
}

// may is what the document says of Check.
func may(a api.Arena) bool {
	if len(a.Things) < 1 || len(a.Things) > 64 || len(a.Free) < 1 || len(a.Free) > 64 {
		return false
	}
	places := slices.Concat(a.Free...)
	for p, t := range a.Things {
		times := 0
		for _, q := range places {
			if q == p {
				times++
			}
		}
		object := slices.Contains([]int{1, 2, 3, 4, 5}, t.Type)
		switch {
		case !object && t.Type != 0, t.Gen < -1, t.Gen > 4095, t.Refs < 0:
			return false
		case object && (t.Gen == -1 || times > 0):
			return false
		case !object && t.Refs > 0, t.Gen == -1 && times > 0, times > 1:
			return false
		}
	}
	return !slices.ContainsFunc(places, func(p int) bool { return p < 0 || p >= len(a.Things) })
}

// goodArenas pass Check: of one place, of some in each state, and of 64, with one core, with some, and with 64.
func goodArenas() []api.Arena {
	some := []api.Thing{empty, with(1, 0, 0), with(5, 4095, 1), with(0, 4095, 0), with(0, api.Retired, 0), with(3, 7, math.MaxInt), with(2, 4094, 0), full, with(0, 12, 0), empty}
	crowd := of(64)
	for p := range crowd {
		crowd[p] = with([]int{0, 1, 0, 5}[p%4], (p*65+30)%4096, 0)
	}
	crowd[62].Gen, crowd[63].Refs = api.Retired, 2
	lists := make([][]int, 64)
	lists[0], lists[5], lists[63] = []int{60, 0, 4}, []int{8}, []int{2, 6, 56}
	odd := []api.Thing{{Start: -4, Size: math.MinInt, Water: 3, From: 70, Value: math.MinInt64}, {Type: 4, Start: math.MaxInt, Water: -1, From: -9, Value: 1}}
	return []api.Arena{
		{Things: of(1), Free: [][]int{{0}}},
		{Things: of(1), Free: [][]int{nil}},
		{Things: of(1), Free: make([][]int, 64)},
		{Things: []api.Thing{with(0, api.Retired, 0)}, Free: [][]int{{}}},
		{Things: []api.Thing{with(4, 4095, 0)}, Free: [][]int{{}, nil}},
		{Things: of(3), Free: [][]int{{0, 2}, {1}}},
		{Things: of(3), Free: [][]int{{2, 1, 0}}},
		{Things: some, Free: [][]int{{3}, {9, 0}, {}}},
		{Things: some, Free: [][]int{{0, 8, 3, 9}}},
		{Things: some, Free: [][]int{nil}},
		{Things: odd, Free: [][]int{nil, {0}}},
		{Things: crowd, Free: lists},
		{Things: crowd, Free: [][]int{{60}}},
	}
}

// badArenas do not pass Check, each for one cause.
func badArenas() []api.Arena {
	two := of(2)
	l := []api.Arena{
		{},
		{Things: two},
		{Things: two, Free: [][]int{}},
		{Free: [][]int{nil}},
		{Things: []api.Thing{}, Free: [][]int{{}}},
		{Free: [][]int{{0}}},
		{Things: of(65), Free: [][]int{nil}},
		{Things: of(65), Free: [][]int{{64}}},
		{Things: of(200), Free: [][]int{{0, 64, 199}}},
		{Things: two, Free: make([][]int, 65)},
		{Things: two, Free: [][]int{{0, 0}}},
		{Things: two, Free: [][]int{{1, 0, 1}}},
		{Things: two, Free: [][]int{{1}, {0, 1}}},
		{Things: two, Free: [][]int{{0}, {}, {0}}},
		{Things: two, Free: [][]int{{0, 2}}},
		{Things: two, Free: [][]int{{0}, {-1}}},
		{Things: two, Free: [][]int{{0}, {64}}},
		{Things: []api.Thing{empty, with(3, 0, 0)}, Free: [][]int{{1}}},
		{Things: []api.Thing{empty, with(3, 0, 0)}, Free: [][]int{{0}, {1}}},
		{Things: []api.Thing{with(0, api.Retired, 0)}, Free: [][]int{{0}}},
		{Things: []api.Thing{empty, with(0, api.Retired, 0)}, Free: [][]int{{0}, nil, {1}}},
	}
	for _, n := range ends {
		l = append(l, api.Arena{Things: two, Free: [][]int{{0, n}}})
	}
	for _, t := range []api.Thing{with(-1, 0, 0), with(6, 0, 0), with(0, -2, 0), with(0, 4096, 0), with(3, 4096, 0), with(3, -1, 0), with(0, 0, 1), with(0, 0, -1), with(3, 0, -1), with(0, -1, 1)} {
		l = append(l, api.Arena{Things: []api.Thing{t, empty, full}, Free: [][]int{{1}}}, api.Arena{Things: []api.Thing{empty, full, t}, Free: [][]int{nil, {0}}})
	}
	return l
}

func allArenas() []api.Arena { return append(goodArenas(), badArenas()...) }

// someObjs are the places of an arena, and what is ahead of them and behind.
func someObjs(a api.Arena) []int {
	l := append([]int{-1, -2, -64, 64, 65, 128, 4096}, ends...)
	for p := range len(a.Things) + 2 {
		l = append(l, p)
	}
	return l
}

// someCores are the cores of an arena, and what is ahead of them and behind.
func someCores(a api.Arena) []int {
	l := append([]int{-1, -2, -64, 64, 65, 128}, ends...)
	for core := range len(a.Free) + 2 {
		l = append(l, core)
	}
	return l
}

// TestNew: P9.1, all that may be: a core's places are its number, and each the count of cores above the one ahead.
func TestNew(t *testing.T) {
	for objs := 1; objs <= 64; objs++ {
		for cores := 1; cores <= 64; cores++ {
			want := api.Arena{Things: of(objs)}
			for core := range cores {
				var l []int
				for p := core; p < objs; p += cores {
					l = append(l, p)
				}
				want.Free = append(want.Free, l)
			}
			if a, e := New(objs, cores); e != api.OK || !like(a, want) || Check(a) != api.OK {
				t.Fatal(objs, cores, a, e)
			}
		}
	}
}

// TestNewWritten: P9.1, written out one by one.
func TestNewWritten(t *testing.T) {
	cases := []struct {
		objs, cores int
		free        [][]int
	}{
		{1, 1, [][]int{{0}}},
		{3, 2, [][]int{{0, 2}, {1}}},
		{5, 1, [][]int{{0, 1, 2, 3, 4}}},
		{2, 3, [][]int{{0}, {1}, {}}},
		{1, 4, [][]int{{0}, {}, {}, {}}},
		{7, 3, [][]int{{0, 3, 6}, {1, 4}, {2, 5}}},
	}
	for _, c := range cases {
		if a, e := New(c.objs, c.cores); e != api.OK || !like(a, api.Arena{Things: of(c.objs), Free: c.free}) {
			t.Error(c, a, e)
		}
	}
	a, _ := New(64, 64)
	if len(a.Things) != 64 || len(a.Free) != 64 || a.Free[63][0] != 63 || a.Things[63] != (api.Thing{From: -1}) {
		t.Error(a)
	}
}

// TestNewWrong: P9.1, too few or too many places or cores.
func TestNewWrong(t *testing.T) {
	wrong := append([]int{0, -1, -2, -64, 65, 66, 128, 256}, ends...)
	for _, n := range wrong {
		for _, m := range append([]int{1, 3, 64}, wrong...) {
			if a, e := New(n, m); e != api.ErrArg || a.Things != nil || a.Free != nil {
				t.Error(n, m, a, e)
			}
			if a, e := New(m, n); e != api.ErrArg || a.Things != nil || a.Free != nil {
				t.Error(m, n, a, e)
			}
		}
	}
}

// TestNewApart: what New answers shares nothing with another answer, and its lists nothing with one another.
func TestNewApart(t *testing.T) {
	for _, n := range [][2]int{{1, 1}, {3, 2}, {64, 3}, {64, 64}, {3, 64}, {64, 1}} {
		a, _ := New(n[0], n[1])
		b, _ := New(n[0], n[1])
		want := deep(b)
		spoil(a)
		if !like(b, want) {
			t.Error(n, b)
		}
		for core := range b.Free {
			l := b.Free[core][:cap(b.Free[core])]
			for i := range l {
				l[i] = -7
			}
			if !like(api.Arena{Free: b.Free[core+1:]}, api.Arena{Free: want.Free[core+1:]}) {
				t.Fatal(n, core, b)
			}
		}
	}
}

// TestCheckGood, TestCheckBad: P9.2, arenas that may be, and that may not.
func TestCheckGood(t *testing.T) {
	for i, a := range goodArenas() {
		if e := Check(a); e != api.OK || !may(a) {
			t.Error(i, a, e)
		}
	}
}

func TestCheckBad(t *testing.T) {
	for i, a := range badArenas() {
		if e := Check(a); e != api.ErrArg || may(a) {
			t.Error(i, a, e)
		}
	}
}

// TestCheckCounts: P9.2, how many things and lists there may be.
func TestCheckCounts(t *testing.T) {
	for n := range 70 {
		for m := range 70 {
			want := api.ErrArg
			if n > 0 && n < 65 && m > 0 && m < 65 {
				want = api.OK
			}
			if e := Check(api.Arena{Things: of(n), Free: make([][]int, m)}); e != want {
				t.Fatal(n, m, e)
			}
		}
	}
}

// TestCheckThing: P9.2, each Type, Gen and Refs at the first place, one in the midst, and the last one, in a list and in none.
func TestCheckThing(t *testing.T) {
	types := append([]int{-1, 0, 1, 2, 3, 4, 5, 6, 7, -5}, ends...)
	gens := append([]int{-3, -2, -1, 0, 1, 7, 4094, 4095, 4096, 4097, 8191}, ends...)
	refs := append([]int{-2, -1, 0, 1, 2, 100}, ends...)
	good := 0
	for _, typ := range types {
		for _, gen := range gens {
			for _, ref := range refs {
				for p := range 3 {
					a := api.Arena{Things: of(3), Free: [][]int{nil, {(p + 1) % 3}}}
					a.Things[p].Type, a.Things[p].Gen, a.Things[p].Refs = typ, gen, ref
					for range 2 {
						if e := Check(a); (e == api.OK) != may(a) || e != api.OK && e != api.ErrArg {
							t.Fatal(a, e)
						}
						if may(a) {
							good++
						}
						a.Free[0] = []int{p}
					}
				}
			}
		}
	}
	// In no list: 5 types, 5 gens and 11 refs of what is live, 6 gens else; in one: the 5 gens alone.
	if good != 3*(5*5*11+6+5) {
		t.Error(good)
	}
}

// TestCheckThingWritten: P9.2, written out one by one, of a place that is in no list.
func TestCheckThingWritten(t *testing.T) {
	cases := []struct {
		typ, gen, refs int
		want           api.Errno
	}{
		{0, 0, 0, api.OK}, {0, 4095, 0, api.OK}, {0, 4096, 0, api.ErrArg}, {0, -1, 0, api.OK}, {0, -2, 0, api.ErrArg},
		{0, 0, 1, api.ErrArg}, {0, 0, -1, api.ErrArg}, {0, -1, 1, api.ErrArg}, {0, -1, -1, api.ErrArg},
		{1, 0, 0, api.OK}, {1, 4095, 0, api.OK}, {1, 4096, 0, api.ErrArg}, {1, -1, 0, api.ErrArg}, {1, -2, 0, api.ErrArg},
		{1, 0, 1, api.OK}, {1, 0, -1, api.ErrArg}, {5, 0, 0, api.OK}, {5, 4095, 1 << 40, api.OK}, {5, -1, 0, api.ErrArg},
		{6, 0, 0, api.ErrArg}, {6, -1, 0, api.ErrArg}, {6, 0, 1, api.ErrArg}, {-1, 0, 0, api.ErrArg}, {-1, -1, 0, api.ErrArg},
	}
	for _, c := range cases {
		if e := Check(api.Arena{Things: []api.Thing{with(c.typ, c.gen, c.refs)}, Free: [][]int{nil}}); e != c.want {
			t.Error(c, e)
		}
	}
}

// TestCheckAllTwice: P9.2, each place of 64, in each of 64 lists, a second time.
func TestCheckAllTwice(t *testing.T) {
	for p := range 64 {
		for core := range 64 {
			a, _ := New(64, 64)
			a.Free[core] = append(a.Free[core], p)
			if e := Check(a); e != api.ErrArg {
				t.Fatal(p, core, e)
			}
		}
	}
}

// TestSame: P9.2, each arena is the same as itself, in other memory too, and as no other one.
func TestSame(t *testing.T) {
	all := allArenas()
	for i, a := range all {
		for j, b := range all {
			if same := Same(a, roomy(b)); same != reflect.DeepEqual(deep(a), deep(b)) {
				t.Error(i, j, a, b, same)
			}
		}
		if !Same(a, a) {
			t.Error(i)
		}
	}
}

// TestSameThings: P9.2, one field of one place is another one, the first place or the last one.
func TestSameThings(t *testing.T) {
	change := []func(*api.Thing){
		func(t *api.Thing) { t.Type++ }, func(t *api.Thing) { t.Gen++ }, func(t *api.Thing) { t.Refs-- }, func(t *api.Thing) { t.Start++ },
		func(t *api.Thing) { t.Size++ }, func(t *api.Thing) { t.Water++ }, func(t *api.Thing) { t.From++ }, func(t *api.Thing) { t.Value += 1 << 40 },
	}
	a := api.Arena{Things: []api.Thing{full, empty, full}, Free: [][]int{{1}}}
	for i, c := range change {
		for p := range a.Things {
			b := deep(a)
			c(&b.Things[p])
			if Same(a, b) || Same(b, a) {
				t.Error(i, p)
			}
		}
	}
	for _, n := range []int{0, 1, 2, 4} {
		b := deep(a)
		b.Things = append(b.Things, full)[:n]
		if Same(a, b) || Same(b, a) {
			t.Error(n)
		}
	}
}

// TestSameLists: P9.2, written out: lists with the same places in the same order, and just as many of them.
func TestSameLists(t *testing.T) {
	cases := []struct {
		a, b [][]int
		want bool
	}{
		{nil, nil, true},
		{nil, [][]int{}, true},
		{[][]int{nil}, [][]int{{}}, true},
		{[][]int{nil}, [][]int{make([]int, 0, 5)}, true},
		{[][]int{nil, {0}, {}}, [][]int{{}, {0}, nil}, true},
		{[][]int{{0}, {}}, [][]int{{}, {0}}, false},
		{[][]int{{0, 1}}, [][]int{{0, 1}}, true},
		{[][]int{{0, 1}}, [][]int{{1, 0}}, false},
		{[][]int{{0, 1}}, [][]int{{0}}, false},
		{[][]int{{0, 1}, {2}}, [][]int{{0}, {1, 2}}, false},
		{[][]int{{0, 1}, {2}}, [][]int{{0, 1}, {3}}, false},
		{[][]int{{0}, nil}, [][]int{{0}}, false},
		{[][]int{nil}, nil, false},
		{[][]int{{}}, [][]int{{}, {}}, false},
		{[][]int{{-1, 70}}, [][]int{{-1, 70}}, true},
	}
	for _, c := range cases {
		a, b := api.Arena{Things: of(3), Free: c.a}, api.Arena{Things: of(3), Free: c.b}
		if Same(a, b) != c.want || Same(b, a) != c.want {
			t.Error(c)
		}
	}
	if !Same(api.Arena{}, api.Arena{Things: []api.Thing{}, Free: [][]int{}}) {
		t.Error("no things")
	}
}

// take is what the document says of Take.
func take(a api.Arena, core int, thing api.Thing) (api.Arena, int, api.Errno) {
	b := deep(a)
	for at, l := range b.Free {
		if at != core || !may(a) || thing.Type < 1 || thing.Type > 5 {
			continue
		}
		if len(l) == 0 {
			return b, 0, api.ErrFull
		}
		p := l[0]
		thing.Gen, thing.Refs = a.Things[p].Gen, 1
		b.Things[p], b.Free[at] = thing, l[1:]
		return b, p, api.OK
	}
	return b, 0, api.ErrArg
}

// TestTake: P9.3, each core of each arena, and cores that are none, with things of each type and of none.
func TestTake(t *testing.T) {
	things := []api.Thing{full, {}, {Type: 1}, {Type: 5, From: -1, Gen: api.Retired, Refs: -3}, {Type: 6}, {Type: -1}, {Type: math.MaxInt}, {Type: math.MinInt}, {Type: 4, Gen: 5000, Value: math.MinInt64, Start: -1}}
	for i, a := range allArenas() {
		for _, core := range someCores(a) {
			for _, thing := range things {
				want, wantP, wantE := take(a, core, thing)
				if b, p, e := Take(a, core, thing); !like(b, want) || p != wantP || e != wantE {
					t.Fatal(i, core, thing, b, p, e)
				}
			}
		}
	}
}

// TestTakeWritten: P9.3, written out one by one.
func TestTakeWritten(t *testing.T) {
	a := api.Arena{Things: []api.Thing{with(0, 4095, 0), empty, with(0, 12, 0)}, Free: [][]int{{1}, {}, {2, 0}}}
	b, p, e := Take(a, 2, full)
	got := full
	got.Gen, got.Refs = 12, 1
	want := api.Arena{Things: []api.Thing{with(0, 4095, 0), empty, got}, Free: [][]int{{1}, {}, {0}}}
	if !like(b, want) || p != 2 || e != api.OK {
		t.Fatal(b, p, e)
	}
	c, p, e := Take(b, 2, api.Thing{Type: api.TyNode})
	want.Things[0], want.Free[2] = api.Thing{Type: api.TyNode, Gen: 4095, Refs: 1}, nil
	if !like(c, want) || p != 0 || e != api.OK {
		t.Fatal(c, p, e)
	}
	for _, w := range []struct {
		core, typ int
		e         api.Errno
	}{
		{2, 3, api.ErrFull}, {1, 3, api.ErrFull}, {1, 5, api.ErrFull}, {3, 3, api.ErrArg}, {-1, 3, api.ErrArg},
		{2, 0, api.ErrArg}, {2, 6, api.ErrArg}, {1, -1, api.ErrArg}, {0, 0, api.ErrArg}, {0, 6, api.ErrArg},
	} {
		if d, p, e := Take(c, w.core, api.Thing{Type: w.typ}); !like(d, want) || p != 0 || e != w.e {
			t.Error(w, d, p, e)
		}
	}
}

// TestTakeAll: P9.3, all places one by one, each core its own, in their order, until its list is empty.
func TestTakeAll(t *testing.T) {
	for _, n := range [][2]int{{1, 1}, {3, 2}, {64, 1}, {64, 5}, {64, 64}, {2, 64}} {
		a, _ := New(n[0], n[1])
		for core := range n[1] {
			for want := core; want < n[0]; want += n[1] {
				b, p, e := Take(a, core, api.Thing{Type: api.TyFrame, Value: int64(want)})
				if e != api.OK || p != want || b.Things[p].Value != int64(want) || Check(b) != api.OK {
					t.Fatal(n, core, want, p, e)
				}
				a = b
			}
			if b, p, e := Take(a, core, full); e != api.ErrFull || p != 0 || !like(a, b) {
				t.Fatal(n, core, p, e)
			}
		}
		if _, _, e := Take(a, n[1], full); e != api.ErrArg {
			t.Fatal(n, e)
		}
	}
}

// drop is what the document says of Drop.
func drop(a api.Arena, obj int) (api.Arena, api.Errno) {
	b := deep(a)
	for p, thing := range a.Things {
		if p != obj || !may(a) || thing.Type == 0 || thing.Refs != 0 {
			continue
		}
		gen := thing.Gen + 1
		if gen == 4096 {
			gen = -1
		}
		b.Things[p] = api.Thing{Gen: gen, From: -1}
		return b, api.OK
	}
	return b, api.ErrArg
}

// TestDrop: P9.4, each place of each arena, and places that are none.
func TestDrop(t *testing.T) {
	for i, a := range allArenas() {
		for _, obj := range someObjs(a) {
			want, wantE := drop(a, obj)
			if b, e := Drop(a, obj); !like(b, want) || e != wantE {
				t.Error(i, obj, b, e)
			}
		}
	}
}

// TestDropWritten: P9.4, written out: a thing at place 1, ahead of it one that is free, behind it one that is retired.
func TestDropWritten(t *testing.T) {
	cases := []struct {
		thing api.Thing
		obj   int
		state string
		gen   int
		e     api.Errno
	}{
		{with(3, 0, 0), 1, "limbo", 1, api.OK},
		{with(1, 4094, 0), 1, "limbo", 4095, api.OK},
		{with(5, 4095, 0), 1, "retired", -1, api.OK},
		{api.Thing{Type: 2, Gen: 6, Start: 4, Size: 5, Water: 6, From: 0, Value: 8}, 1, "limbo", 7, api.OK},
		{with(3, 0, 1), 1, "live", 0, api.ErrArg},
		{with(3, 4095, math.MaxInt), 1, "live", 4095, api.ErrArg},
		{with(3, 8, 0), 0, "live", 8, api.ErrArg},
		{with(3, 8, 0), 2, "live", 8, api.ErrArg},
		{with(3, 8, 0), 3, "live", 8, api.ErrArg},
		{with(3, 8, 0), -1, "live", 8, api.ErrArg},
		{with(0, 8, 0), 1, "limbo", 8, api.ErrArg},
	}
	for _, c := range cases {
		a := api.Arena{Things: []api.Thing{empty, c.thing, with(0, -1, 0)}, Free: [][]int{nil, {0}}}
		want := deep(a)
		if c.e == api.OK {
			want.Things[1] = api.Thing{From: -1, Gen: c.gen}
		}
		b, e := Drop(a, c.obj)
		if !like(b, want) || e != c.e || b.Things[1].Gen != c.gen || State(b, 1) != c.state || State(b, 0) != "free" || State(b, 2) != "retired" {
			t.Error(c, b, e)
		}
	}
}

// give is what the document says of Give.
func give(a api.Arena, core, obj int) (api.Arena, api.Errno) {
	b := deep(a)
	if !may(a) || core < 0 || core >= len(a.Free) || obj < 0 || obj >= len(a.Things) || a.Things[obj].Type != 0 {
		return b, api.ErrArg
	}
	if slices.Contains(slices.Concat(a.Free...), obj) {
		return b, api.ErrArg
	}
	if a.Things[obj].Gen != -1 {
		b.Free[core] = append(b.Free[core], obj)
	}
	return b, api.OK
}

// TestGive: P9.4, each place of each arena to each core, and places and cores that are none.
func TestGive(t *testing.T) {
	for i, a := range allArenas() {
		for _, core := range someCores(a) {
			for _, obj := range someObjs(a) {
				want, wantE := give(a, core, obj)
				if b, e := Give(a, core, obj); !like(b, want) || e != wantE {
					t.Fatal(i, core, obj, b, e)
				}
			}
		}
	}
}

// TestGiveWritten: P9.4, written out: places that are free, live, in limbo, retired, and in limbo.
func TestGiveWritten(t *testing.T) {
	a := api.Arena{Things: []api.Thing{empty, full, with(0, 3, 0), with(0, -1, 0), with(0, 4095, 0)}, Free: [][]int{{0}, nil}}
	cases := []struct {
		core, obj int
		free      [][]int
		e         api.Errno
	}{
		{0, 2, [][]int{{0, 2}, nil}, api.OK},
		{1, 2, [][]int{{0}, {2}}, api.OK},
		{0, 4, [][]int{{0, 4}, nil}, api.OK},
		{1, 4, [][]int{{0}, {4}}, api.OK},
		{0, 3, [][]int{{0}, nil}, api.OK},
		{1, 3, [][]int{{0}, nil}, api.OK},
		{0, 0, [][]int{{0}, nil}, api.ErrArg},
		{1, 0, [][]int{{0}, nil}, api.ErrArg},
		{0, 1, [][]int{{0}, nil}, api.ErrArg},
		{2, 2, [][]int{{0}, nil}, api.ErrArg},
		{2, 3, [][]int{{0}, nil}, api.ErrArg},
		{-1, 2, [][]int{{0}, nil}, api.ErrArg},
		{-1, 3, [][]int{{0}, nil}, api.ErrArg},
		{0, 5, [][]int{{0}, nil}, api.ErrArg},
		{0, -1, [][]int{{0}, nil}, api.ErrArg},
	}
	for _, c := range cases {
		if b, e := Give(a, c.core, c.obj); !like(b, api.Arena{Things: a.Things, Free: c.free}) || e != c.e {
			t.Error(c, b, e)
		}
	}
}

// TestGiveAll: P9.4, 64 places in limbo, all to one core, the last one first, and one by one to 64 cores.
func TestGiveAll(t *testing.T) {
	a := api.Arena{Things: of(64), Free: make([][]int, 64)}
	one, each := a, a
	var want []int
	for p := 63; p >= 0; p-- {
		var e, f api.Errno
		one, e = Give(one, 63, p)
		each, f = Give(each, p, p)
		want = append(want, p)
		if e != api.OK || f != api.OK || !slices.Equal(one.Free[63], want) || !slices.Equal(each.Free[p], []int{p}) {
			t.Fatal(p, one, each, e, f)
		}
	}
	if Check(one) != api.OK || Check(each) != api.OK {
		t.Fatal(one, each)
	}
}

// refer is what the document says of Refer.
func refer(a api.Arena, obj, by int) (api.Arena, api.Errno) {
	b := deep(a)
	if !may(a) || obj < 0 || obj >= len(a.Things) || a.Things[obj].Type == 0 || by < -100 || by > 100 {
		return b, api.ErrArg
	}
	refs := a.Things[obj].Refs
	if by < 0 && refs < -by || by > math.MaxInt-refs {
		return b, api.ErrArg
	}
	b.Things[obj].Refs += by
	return b, api.OK
}

// TestRefer: P9.5, each place of each arena, and places that are none, by as much as may be, and by more.
func TestRefer(t *testing.T) {
	bys := append([]int{0, 1, -1, 2, -2, 6, -6, 7, -7, 8, -8, 99, -99, 100, -100, 101, -101, 200, -200}, ends...)
	for i, a := range allArenas() {
		for _, obj := range someObjs(a) {
			for _, by := range bys {
				want, wantE := refer(a, obj, by)
				if b, e := Refer(a, obj, by); !like(b, want) || e != wantE {
					t.Fatal(i, obj, by, b, e)
				}
			}
		}
	}
}

// TestReferWritten: P9.5, written out: Refs ahead, and behind.
func TestReferWritten(t *testing.T) {
	cases := []struct {
		refs, by, want int
		e              api.Errno
	}{
		{0, 0, 0, api.OK}, {0, 1, 1, api.OK}, {1, -1, 0, api.OK}, {1, -2, 1, api.ErrArg}, {0, -1, 0, api.ErrArg},
		{5, 100, 105, api.OK}, {5, 101, 5, api.ErrArg}, {100, -100, 0, api.OK}, {99, -100, 99, api.ErrArg}, {101, -100, 1, api.OK},
		{200, -101, 200, api.ErrArg}, {0, 100, 100, api.OK}, {0, math.MaxInt, 0, api.ErrArg}, {9, math.MinInt, 9, api.ErrArg},
		{math.MaxInt, 0, math.MaxInt, api.OK}, {math.MaxInt, -100, math.MaxInt - 100, api.OK}, {math.MaxInt - 100, 100, math.MaxInt, api.OK},
		{math.MaxInt, 1, math.MaxInt, api.ErrArg}, {math.MaxInt - 99, 100, math.MaxInt - 99, api.ErrArg},
	}
	for _, c := range cases {
		a := api.Arena{Things: []api.Thing{full, full}, Free: [][]int{nil}}
		a.Things[1].Refs = c.refs
		want := deep(a)
		want.Things[1].Refs = c.want
		if b, e := Refer(a, 1, c.by); !like(b, want) || e != c.e {
			t.Error(c, b, e)
		}
	}
}

// TestReferNotLive: P9.5, a place that is free, in limbo, retired or none has no Refs, not by 0 either.
func TestReferNotLive(t *testing.T) {
	a := api.Arena{Things: []api.Thing{empty, with(0, 2, 0), with(0, -1, 0), with(4, 2, 3)}, Free: [][]int{{0}}}
	for _, obj := range []int{0, 1, 2, 4, -1} {
		for _, by := range []int{0, 1, -1} {
			if b, e := Refer(a, obj, by); !like(a, b) || e != api.ErrArg {
				t.Error(obj, by, b, e)
			}
		}
	}
}

// TestState: P9.6, each place, right behind the last one, and places that are none.
func TestState(t *testing.T) {
	for i, a := range goodArenas() {
		for p, thing := range a.Things {
			want := "limbo"
			switch {
			case thing.Type != 0:
				want = "live"
			case thing.Gen == -1:
				want = "retired"
			case slices.Contains(slices.Concat(a.Free...), p):
				want = "free"
			}
			if s := State(a, p); s != want {
				t.Error(i, p, s, want)
			}
		}
		for _, obj := range append([]int{-1, -64, len(a.Things), len(a.Things) + 1, 64, 65}, ends...) {
			if s := State(a, obj); s != "" {
				t.Error(i, obj, s)
			}
		}
	}
}

// TestStateWritten: P9.6, written out, arenas that may not be too: what is named first is what the place is.
func TestStateWritten(t *testing.T) {
	a := api.Arena{Things: []api.Thing{
		empty, with(1, 0, 0), with(5, 4095, 1), with(0, 4095, 0), with(0, -1, 0), empty,
		with(6, 0, 0), with(-1, 0, 0), with(0, -2, 0), with(0, 4096, 4),
		with(3, -1, 0), with(3, 0, 0), with(0, -1, 0), with(6, -1, 0), with(6, 0, 0), with(3, -1, -1),
	}, Free: [][]int{{5}, nil, {11, 99, -1, 12, 12}, {14, 15}}}
	want := []string{"limbo", "live", "live", "limbo", "retired", "free", "limbo", "limbo", "limbo", "limbo", "live", "live", "free", "retired", "free", "live", "", ""}
	for obj, w := range want {
		if s := State(a, obj); s != w {
			t.Error(obj, s, w)
		}
	}
	for _, obj := range append([]int{0, -1, 64}, ends...) {
		if s := State(api.Arena{}, obj); s != "" {
			t.Error(obj, s)
		}
		if s := State(api.Arena{Free: [][]int{{obj}}}, obj); s != "" {
			t.Error(obj, s)
		}
		if s := State(api.Arena{Things: of(1)}, obj); obj != 0 && s != "" || obj == 0 && s != "limbo" {
			t.Error(obj, s)
		}
	}
	if s := State(api.Arena{Things: of(65), Free: [][]int{{64}}}, 64); s != "free" {
		t.Error(s)
	}
}

// follow is all that follows an arena by one call that is answered OK.
func follow(t *testing.T, a api.Arena, most int) []api.Arena {
	var l []api.Arena
	add := func(b api.Arena, e api.Errno) {
		if e == api.OK {
			l = append(l, b)
		} else if !like(a, b) {
			t.Fatal(a, b, e)
		}
	}
	for core := range a.Free {
		b, _, e := Take(a, core, api.Thing{Type: api.TyFrame, Gen: 77, Refs: 88})
		add(b, e)
	}
	for obj := range a.Things {
		add(Drop(a, obj))
		add(Refer(a, obj, -1))
		if a.Things[obj].Refs < most {
			add(Refer(a, obj, 1))
		}
		for core := range a.Free {
			add(Give(a, core, obj))
		}
	}
	return l
}

// goes says whether a place may go from one state to another in one call.
func goes(from, to string) bool {
	ways := [][2]string{{"free", "live"}, {"live", "limbo"}, {"live", "retired"}, {"limbo", "free"}}
	return from == to || slices.Contains(ways, [2]string{from, to})
}

// key is what tells two arenas apart, for maps.
func key(a api.Arena) string {
	var s []byte
	for _, t := range a.Things {
		s = append(s, byte(t.Type), byte(t.Gen), byte(t.Gen>>8), byte(t.Refs), byte(t.From))
	}
	for _, l := range a.Free {
		s = append(s, 255)
		for _, p := range l {
			s = append(s, byte(p))
		}
	}
	return string(s)
}

// TestWhatFollows: P9.7, all that ever follows some arenas whose places are near their last generation.
func TestWhatFollows(t *testing.T) {
	starts := []api.Arena{
		{Things: []api.Thing{with(0, 4093, 0), with(0, 4094, 0)}, Free: [][]int{{0}, {1}}},
		{Things: []api.Thing{with(0, 4094, 0), with(0, 4095, 0), with(0, 4094, 0)}, Free: [][]int{{2, 0}, {1}}},
		{Things: []api.Thing{with(0, 4094, 0), with(4, 4095, 1), with(0, 4095, 0)}, Free: [][]int{nil, nil, {0}}},
	}
	for i, start := range starts {
		seen := map[string]bool{key(start): true}
		todo := []api.Arena{start}
		over := 0
		for len(todo) > 0 {
			a := todo[0]
			todo = todo[1:]
			if !slices.ContainsFunc(a.Things, func(t api.Thing) bool { return t.Gen != -1 }) {
				over++
			}
			for _, b := range follow(t, a, 2) {
				checkStep(t, a, b)
				if !seen[key(b)] {
					seen[key(b)] = true
					todo = append(todo, b)
				}
			}
		}
		// When all places are retired, nothing else follows: that is one arena.
		if over != 1 || len(seen) < 100 {
			t.Error(i, over, len(seen))
		}
	}
}

// checkStep asks for P9.7 of what follows by one call: it may be, and at most one place is in another state, which it may go to.
func checkStep(t *testing.T, a, b api.Arena) {
	t.Helper()
	if Check(b) != api.OK || !may(b) || len(a.Things) != len(b.Things) || len(a.Free) != len(b.Free) {
		t.Fatal(a, b)
	}
	others := 0
	for p := range a.Things {
		from, to := State(a, p), State(b, p)
		if !goes(from, to) || from == "retired" && a.Things[p] != b.Things[p] {
			t.Fatal(a, b, p, from, to)
		}
		if from != to {
			others++
		}
		if gen := b.Things[p].Gen; gen != a.Things[p].Gen && from != "live" {
			t.Fatal(a, b, p)
		}
	}
	if others > 1 {
		t.Fatal(a, b)
	}
}

// TestUntilRetired: P9.7, a new arena's places, taken, dropped and given from core to core, until all of them are retired.
func TestUntilRetired(t *testing.T) {
	for _, n := range [][2]int{{1, 1}, {3, 2}, {2, 5}} {
		a, _ := New(n[0], n[1])
		uses := 0
		for turn := 0; ; turn++ {
			if turn > 4096*n[0]*n[1]+n[1] {
				t.Fatal(n, "goes on")
			}
			b, p, e := Take(a, turn%n[1], full)
			if e == api.ErrFull {
				if !slices.ContainsFunc(a.Free, func(l []int) bool { return len(l) > 0 }) {
					break
				}
				continue
			}
			uses++
			c, f := Refer(b, p, -1)
			d, g := Drop(c, p)
			x, h := Give(d, (turn+p)%n[1], p)
			if e != api.OK || f != api.OK || g != api.OK || h != api.OK {
				t.Fatal(n, turn, p, e, f, g, h)
			}
			for _, step := range [][2]api.Arena{{a, b}, {b, c}, {c, d}, {d, x}} {
				checkStep(t, step[0], step[1])
			}
			a = x
		}
		if uses != 4096*n[0] {
			t.Error(n, uses)
		}
		for p := range a.Things {
			if State(a, p) != "retired" || a.Things[p] != (api.Thing{Gen: -1, From: -1}) {
				t.Error(n, p, a)
			}
		}
	}
}

// calls are each call with an arena, answered OK and with errors.
func calls(a api.Arena) []func(api.Arena) api.Arena {
	var l []func(api.Arena) api.Arena
	for _, core := range []int{-1, 0, 1, len(a.Free) - 1, len(a.Free)} {
		for _, typ := range []int{0, 3} {
			l = append(l, func(a api.Arena) api.Arena { b, _, _ := Take(a, core, api.Thing{Type: typ}); return b })
		}
		for obj := -1; obj <= len(a.Things); obj++ {
			l = append(l, func(a api.Arena) api.Arena { b, _ := Give(a, core, obj); return b })
		}
	}
	for obj := -1; obj <= len(a.Things); obj++ {
		l = append(l, func(a api.Arena) api.Arena { b, _ := Drop(a, obj); return b })
		for _, by := range []int{0, 1, -1, 101} {
			l = append(l, func(a api.Arena) api.Arena { b, _ := Refer(a, obj, by); return b })
		}
	}
	return l
}

// TestNotChanged: arenas that are handed in stay as they are, and so does the room of their lists.
func TestNotChanged(t *testing.T) {
	for i, a := range allArenas() {
		r := roomy(a)
		for j, call := range calls(a) {
			spoil(call(r))
			if !untouched(r, a) {
				t.Fatal(i, j, r)
			}
		}
		Check(r)
		Same(r, roomy(a))
		State(r, 0)
		if !untouched(r, a) {
			t.Fatal(i, r)
		}
	}
}

// TestNotKept: what was answered stays as it is if what was handed in is written to, or another answer.
func TestNotKept(t *testing.T) {
	for i, a := range allArenas() {
		for j, call := range calls(a) {
			r := roomy(a)
			b, other := call(r), call(r)
			want := deep(b)
			spoil(other)
			if !like(b, want) {
				t.Fatal(i, j, b)
			}
			spoil(r)
			if !like(b, want) {
				t.Fatal(i, j, b)
			}
		}
	}
}

// TestListsApart: no list of an answer shares room with another one of it.
func TestListsApart(t *testing.T) {
	for i, a := range goodArenas() {
		for j, call := range calls(a) {
			b := call(roomy(a))
			want := deep(b)
			for core, l := range b.Free {
				for at := range l[:cap(l)] {
					l[:cap(l)][at] = -7
				}
				if !like(api.Arena{Things: b.Things, Free: b.Free[core+1:]}, api.Arena{Things: want.Things, Free: want.Free[core+1:]}) {
					t.Fatal(i, j, core, b)
				}
			}
		}
	}
}

package addr

import (
	"math"
	"slices"
	"testing"

	"garrison/api"
)

// The document's limits, written out.
const (
	mostLevels = 4
	slots      = 8
	mostPart   = 7
)

// ends are numbers at the ends of int, and such as are small again if bits of them are lost.
var ends = []int{math.MinInt, math.MinInt + 1, math.MinInt + 2, math.MaxInt, math.MaxInt - 1, math.MaxInt - 2,
	1 << 31, -1 << 31, 1 << 32, 1<<32 + 1, 1<<32 + 3, -1 << 32, 1 << 58, -1 << 58, 1 << 61, 1 << 62, -1 << 62, 1<<62 + 1}

// noParts are numbers that are no Guard and no Index.
var noParts = append([]int{-1, -2, -7, -8, 8, 9, 15, 16, 64, 256, 1 << 16}, ends...)

// at is a step, in a short form.
func at(guard, index int) api.Step { return api.Step{Guard: guard, Index: index} }

func key(obj, slot int) api.Key { return api.Key{Obj: obj, Slot: slot} }

// node is a capability to a node, which may be read alone.
func node(obj, guard int) api.Cap {
	return api.Cap{Type: api.TyNode, Rights: api.Read, Badge: guard, Obj: obj}
}

// some are n steps that are alike in nothing.
func some(n int) []api.Step {
	l := make([]api.Step, n)
	for i := range l {
		l[i] = at((i*3+1)%8, (i*5+6)%8)
	}
	return l
}

// addresses are all of n steps whose parts are among those.
func addresses(n int, parts ...int) [][]api.Step {
	all := [][]api.Step{nil}
	for range n {
		var longer [][]api.Step
		for _, l := range all {
			for _, guard := range parts {
				for _, index := range parts {
					longer = append(longer, append(slices.Clone(l), at(guard, index)))
				}
			}
		}
		all = longer
	}
	return all
}

// allAddresses are all of one and of two steps, and many of three and four.
func allAddresses() [][]api.Step {
	every := []int{0, 1, 2, 3, 4, 5, 6, 7}
	return slices.Concat(addresses(1, every...), addresses(2, every...), addresses(3, 0, 1, 2, 5, 7), addresses(4, 0, 3, 7), addresses(4, 4, 5, 6))
}

// is is what the document says of an address.
func is(l []api.Step) bool {
	for _, s := range l {
		if s.Guard < 0 || s.Guard > mostPart || s.Index < 0 || s.Index > mostPart {
			return false
		}
	}
	return len(l) >= 1 && len(l) <= mostLevels
}

// word is what the document says of Put, of an address: a sum of what each field counts.
func word(l []api.Step) uint64 {
	w, unit := uint64(len(l)), uint64(8)
	for _, s := range l {
		w += uint64(s.Guard)*unit + uint64(s.Index)*unit*8
		unit *= 64
	}
	return w
}

// steps is what the document says of Parse: what is left behind the last step must be nothing.
func steps(w uint64) ([]api.Step, bool) {
	n := int(w % 8)
	w /= 8
	var l []api.Step
	for range n {
		l = append(l, at(int(w%8), int(w/8%8)))
		w /= 64
	}
	return l, n >= 1 && n <= mostLevels && w == 0
}

// leads says whether a capability may be, and is one to a node that may be read, as the document tells it.
func leads(c api.Cap) bool {
	return c.Type == 2 && c.Rights >= 0 && c.Rights <= 15 && c.Rights%2 == 1 && c.Badge >= 0 && c.Badge <= mostPart &&
		c.Obj >= 0 && c.Obj <= 1023 && c.Gen >= 0 && c.Gen <= 4095
}

// walk is what the document says of Find's steps: the places from c on, each ahead of those behind it.
func walk(t [][]api.Cap, c api.Cap, l []api.Step) ([]api.Key, bool) {
	if !leads(c) || c.Badge != l[0].Guard || c.Obj > len(t)-1 || len(t[c.Obj]) != slots {
		return nil, false
	}
	here := key(c.Obj, l[0].Index)
	if len(l) == 1 {
		return []api.Key{here}, true
	}
	rest, ok := walk(t, t[here.Obj][here.Slot], l[1:])
	return append([]api.Key{here}, rest...), ok
}

// holds says whether Find answers what the document says; and whether it found something.
func holds(x *testing.T, t [][]api.Cap, root api.Cap, l []api.Step) bool {
	x.Helper()
	var want []api.Key
	found := false
	if is(l) {
		want, found = walk(t, root, l)
	}
	k, way, e := Find(t, root, l)
	switch {
	case !found && (e != api.ErrAddr || k != api.Key{} || len(way) != 0):
		x.Fatal("nothing is there", t, root, l, k, way, e)
	case found && (e != api.OK || !slices.Equal(way, want) || k != want[len(want)-1]):
		x.Fatal(t, root, l, k, way, e)
	}
	return found
}

var (
	fillStep = at(5, 6)
	fillCap  = api.Cap{Type: 4, Rights: 3, Badge: 9, Obj: 9, Gen: 9}
)

// room is how much each list has behind it.
const room = 5

func roomy[T any](l []T, filling T) []T {
	long := append(slices.Clone(l), slices.Repeat([]T{filling}, room)...)
	return long[: len(l) : len(l)+room]
}

// untouched says whether a list that roomy made is still l, and its room too.
func untouched[T comparable](r, l []T, filling T) bool {
	return slices.Equal(r[:len(l)+room], append(slices.Clone(l), slices.Repeat([]T{filling}, room)...))
}

// roomyNodes has room behind each list of t, and behind t.
func roomyNodes(t [][]api.Cap) [][]api.Cap {
	long := make([][]api.Cap, len(t)+room)
	for i := range long {
		if i < len(t) {
			long[i] = roomy(t[i], fillCap)
		} else {
			long[i] = roomy(slices.Repeat([]api.Cap{node(0, 0)}, slots), fillCap)
		}
	}
	return long[:len(t)]
}

// untouchedNodes says whether what roomyNodes made of t is still so.
func untouchedNodes(r, t [][]api.Cap) bool {
	fresh := roomyNodes(t)[:len(t)+room]
	for i, l := range r[:len(t)+room] {
		if len(l) != len(fresh[i]) || !untouched(l, fresh[i], fillCap) {
			return false
		}
	}
	return len(r) == len(t)
}

// spoil writes to all of a list, and to its room.
func spoil[T any](l []T, v T) {
	l = l[:cap(l)]
	for i := range l {
		l[i] = v
	}
}

// blank are n nodes in whose slots there is nothing.
func blank(n int) [][]api.Cap {
	t := make([][]api.Cap, n)
	for i := range t {
		t[i] = make([]api.Cap, slots)
	}
	return t
}

// with is t, with that in a slot.
func with(t [][]api.Cap, obj, slot int, c api.Cap) [][]api.Cap {
	u := slices.Clone(t)
	u[obj] = slices.Clone(t[obj])
	u[obj][slot] = c
	return u
}

// chain has a way of four steps: 0.2 has node 1, 1.7 has node 2, 2.0 has node 3, each with another guard.
func chain() (t [][]api.Cap, root api.Cap, l []api.Step) {
	t = blank(4)
	t[0][2], t[1][7], t[2][0] = node(1, 7), node(2, 0), node(3, 3)
	t[3][5] = api.Cap{Type: api.TyFrame, Rights: 15, Obj: 9}
	return t, node(0, 4), []api.Step{at(4, 2), at(7, 7), at(0, 0), at(3, 5)}
}

// mixed has four objects, one of them no node, whose slots have something of everything: a rule's sums choose.
func mixed(seed int) [][]api.Cap {
	t := blank(4)
	t[seed%4] = make([]api.Cap, []int{0, 7, 9, 8}[seed/4%4])
	n := seed*7919 + 1
	for obj := range t {
		for slot := range t[obj] {
			n = (n*1103515245 + 12345) % (1 << 31)
			pick := n >> 8
			c := node(pick%5, pick/5%2)
			switch pick / 10 % 8 {
			case 0:
				c = api.Cap{}
			case 1:
				c.Type = pick / 80 % 6
			case 2:
				c.Rights = pick / 80 % 18
			case 3:
				c.Rights, c.Gen = 15, pick/80%4097
			}
			t[obj][slot] = c
		}
	}
	return t
}

// TestLimits: the document's.
func TestLimits(t *testing.T) {
	if api.MaxLevels != mostLevels || api.Slots != slots || api.ErrAddr != 120 {
		t.Fatal("limits")
	}
}

// TestCheck: P12.1, of each number of steps, and of each step's parts about the edges.
func TestCheck(t *testing.T) {
	for n := range 12 {
		want := api.ErrAddr
		if n >= 1 && n <= 4 {
			want = api.OK
		}
		if got := Check(make([]api.Step, n)); got != want {
			t.Error(n, got)
		}
		if got := Check(some(n)); got != want {
			t.Error(n, got)
		}
		if got := Check(slices.Repeat([]api.Step{at(7, 7)}, n)); got != want {
			t.Error(n, got)
		}
	}
	if Check(nil) != api.ErrAddr || Check([]api.Step{}) != api.ErrAddr || Check(make([]api.Step, 1<<16+1)) != api.ErrAddr {
		t.Error("no step, and too many")
	}
	for guard := -3; guard <= 10; guard++ {
		for index := -3; index <= 10; index++ {
			want := api.ErrAddr
			if 0 <= guard && guard <= 7 && 0 <= index && index <= 7 {
				want = api.OK
			}
			if got := Check([]api.Step{at(guard, index)}); got != want {
				t.Error(guard, index, got)
			}
		}
	}
}

// TestOneWrongPart: P12.1 to P12.3, of a Guard and of an Index that may not be, in each step of each number of them.
func TestOneWrongPart(t *testing.T) {
	nodes := blank(1)
	spoil(nodes[0], node(0, 0))
	for n := 1; n <= 4; n++ {
		for i := range n {
			for _, v := range noParts {
				for _, s := range []api.Step{at(v, 0), at(0, v), at(v, v), at(v, 7), at(7, v)} {
					l := make([]api.Step, n)
					l[i] = s
					w, e := Put(l...)
					if Check(l) != api.ErrAddr || w != 0 || e != api.ErrAddr {
						t.Fatal(l, w, e)
					}
					holds(t, nodes, node(0, 0), l)
				}
			}
		}
	}
}

// TestPutTable: P12.2, written out; the first is the chapter's example.
func TestPutTable(t *testing.T) {
	for _, c := range []struct {
		l []api.Step
		w uint64
		e api.Errno
	}{
		{[]api.Step{at(0, 3)}, 0x00000000000000c1, api.OK},
		{[]api.Step{at(0, 0)}, 1, api.OK},
		{[]api.Step{at(7, 0)}, 1 | 7<<3, api.OK},
		{[]api.Step{at(0, 7)}, 1 | 7<<6, api.OK},
		{[]api.Step{at(7, 7)}, 0x1f9, api.OK},
		{[]api.Step{at(0, 0), at(0, 0)}, 2, api.OK},
		{[]api.Step{at(1, 2), at(3, 4)}, 2 | 1<<3 | 2<<6 | 3<<9 | 4<<12, api.OK},
		{[]api.Step{at(0, 0), at(7, 7)}, 2 | 0x3f<<9, api.OK},
		{[]api.Step{at(0, 0), at(0, 0), at(0, 0)}, 3, api.OK},
		{[]api.Step{at(1, 2), at(3, 4), at(5, 6)}, 3 | 1<<3 | 2<<6 | 3<<9 | 4<<12 | 5<<15 | 6<<18, api.OK},
		{[]api.Step{at(0, 0), at(0, 0), at(0, 0), at(0, 0)}, 4, api.OK},
		{[]api.Step{at(1, 2), at(3, 4), at(5, 6), at(7, 1)}, 4 | 1<<3 | 2<<6 | 3<<9 | 4<<12 | 5<<15 | 6<<18 | 7<<21 | 1<<24, api.OK},
		{[]api.Step{at(7, 7), at(7, 7), at(7, 7), at(7, 7)}, 0x7fffffc, api.OK},
		{nil, 0, api.ErrAddr},
		{[]api.Step{}, 0, api.ErrAddr},
		{make([]api.Step, 5), 0, api.ErrAddr},
		{some(5), 0, api.ErrAddr},
		{some(8), 0, api.ErrAddr},
		{make([]api.Step, 1<<16+1), 0, api.ErrAddr},
		{[]api.Step{at(8, 0)}, 0, api.ErrAddr},
		{[]api.Step{at(0, -1)}, 0, api.ErrAddr},
	} {
		if w, e := Put(c.l...); w != c.w || e != c.e {
			t.Errorf("%v: %x %v", c.l, w, e)
		}
	}
	if w, e := Put(); w != 0 || e != api.ErrAddr {
		t.Error("of no step", w, e)
	}
}

// TestPutBits: P12.2, bit by bit: each part alone, in each place of each number of steps.
func TestPutBits(t *testing.T) {
	for n := 1; n <= 4; n++ {
		for i := range n {
			for v := range 8 {
				l := make([]api.Step, n)
				l[i].Guard = v
				if w, e := Put(l...); e != api.OK || w != uint64(n)|uint64(v)<<(3+6*i) {
					t.Error(l, w, e)
				}
				l[i] = at(0, v)
				if w, e := Put(l...); e != api.OK || w != uint64(n)|uint64(v)<<(6+6*i) {
					t.Error(l, w, e)
				}
			}
		}
	}
}

// TestThereAndBack: P12.2, P12.4, of all addresses of one and two steps, and of many of three and four.
func TestThereAndBack(t *testing.T) {
	seen := map[uint64]int{}
	all := allAddresses()
	for _, l := range all {
		w, e := Put(l...)
		if e != api.OK || w != word(l) {
			t.Fatal(l, w, e)
		}
		again, e := Parse(w)
		if e != api.OK || !slices.Equal(again, l) {
			t.Fatal(l, w, again, e)
		}
		seen[w]++
	}
	if len(seen) != len(all) {
		t.Fatal("unlike ones have unlike words", len(all), len(seen))
	}
}

// parses says whether Parse answers of w what the document says, and Put of it w; and whether w is an address's.
func parses(t *testing.T, w uint64) bool {
	t.Helper()
	want, good := steps(w)
	l, e := Parse(w)
	if !good {
		if e != api.ErrAddr || len(l) != 0 {
			t.Fatalf("%x: %v %v", w, l, e)
		}
		return false
	}
	again, x := Put(l...)
	if e != api.OK || !slices.Equal(l, want) || x != api.OK || again != w {
		t.Fatalf("%x: %v %v, %x %v", w, l, e, again, x)
	}
	return true
}

// TestParseTable: P12.2, written out.
func TestParseTable(t *testing.T) {
	for _, c := range []struct {
		w uint64
		l []api.Step
	}{
		{0xc1, []api.Step{at(0, 3)}},
		{1, []api.Step{at(0, 0)}},
		{0x1f9, []api.Step{at(7, 7)}},
		{0x3f9, nil},
		{0x201, nil},
		{2, []api.Step{at(0, 0), at(0, 0)}},
		{0x7ffa, []api.Step{at(7, 7), at(7, 7)}},
		{0xfffa, nil},
		{3, []api.Step{at(0, 0), at(0, 0), at(0, 0)}},
		{0x1ffffb, []api.Step{at(7, 7), at(7, 7), at(7, 7)}},
		{0x20000b, nil},
		{4, []api.Step{at(0, 0), at(0, 0), at(0, 0), at(0, 0)}},
		{0x7fffffc, []api.Step{at(7, 7), at(7, 7), at(7, 7), at(7, 7)}},
		{0x8000004, nil},
		{0, nil}, {5, nil}, {6, nil}, {7, nil}, {8, nil}, {0x1f8, nil}, {0x1ff, nil}, {0x7fffffd, nil},
		{1 << 63, nil}, {1<<63 | 1, nil}, {1<<63 | 4, nil}, {math.MaxUint64, nil}, {math.MaxUint64 - 3, nil}, {math.MaxUint64 - 6, nil},
	} {
		want := api.OK
		if c.l == nil {
			want = api.ErrAddr
		}
		if l, e := Parse(c.w); e != want || !slices.Equal(l, c.l) {
			t.Errorf("%x: %v %v", c.w, l, e)
		}
	}
}

// TestParse: P12.2, P12.4, of all words that are small, of those at the end, and of those of which one bit is another.
func TestParse(t *testing.T) {
	good := 0
	for w := range uint64(1 << 16) {
		for _, v := range []uint64{w, ^w, w << 11, w << 48, w<<48 | 4} {
			if parses(t, v) {
				good++
			}
		}
	}
	if good < 1<<13 {
		t.Fatal("too few:", good)
	}
	for n := 1; n <= 4; n++ {
		for _, l := range [][]api.Step{make([]api.Step, n), some(n), slices.Repeat([]api.Step{at(7, 7)}, n)} {
			for k := range 64 {
				w := word(l)
				parses(t, w^1<<k)
				if k >= 3+6*n && parses(t, w|1<<k) {
					t.Fatal("a bit behind the last step", l, k)
				}
				if k >= 3+6*n && parses(t, w|math.MaxUint64<<k) {
					t.Fatal("bits behind the last step", l, k)
				}
			}
		}
	}
	for count := range uint64(8) {
		for _, w := range []uint64{0, 1 << 3, 0x3f << 3, 1<<63 | 1<<3, math.MaxUint64 &^ 7} {
			if ok := parses(t, w|count); ok && (count == 0 || count > 4) {
				t.Fatal(w, count)
			}
		}
	}
}

// TestGet: P12.3, of objects with 0 to 17 capabilities, of each place, and about the edges.
func TestGet(t *testing.T) {
	var nodes [][]api.Cap
	for _, n := range []int{8, 0, 7, 9, 8, 1, 16, 17, 8} {
		l := make([]api.Cap, n)
		for i := range l { // such as may not be are there as they are
			l[i] = api.Cap{Type: i - 1, Rights: i * 5, Badge: -i, Obj: len(nodes), Gen: i << 40}
		}
		nodes = append(nodes, l)
	}
	objs := append([]int{-2, -1, 0, 1, 2, 3, 4, 5, 6, 7, 8, 9, 10}, ends...)
	numbers := append([]int{-2, -1, 0, 1, 2, 3, 4, 5, 6, 7, 8, 9, 15, 16}, ends...)
	for _, obj := range objs {
		for _, slot := range numbers {
			c, ok := Get(nodes, key(obj, slot))
			want := (obj == 0 || obj == 4 || obj == 8) && slot >= 0 && slot <= 7
			if ok != want || want && c != nodes[obj][slot] || !want && c != (api.Cap{}) {
				t.Error(obj, slot, c, ok)
			}
			for _, none := range [][][]api.Cap{nil, {}, {nil}, {{}}, make([][]api.Cap, 9)} {
				if c, ok := Get(none, key(obj, slot)); ok || c != (api.Cap{}) {
					t.Error(none, obj, slot, c, ok)
				}
			}
		}
	}
	if c, ok := Get(blank(1), key(0, 7)); !ok || c != (api.Cap{}) {
		t.Error("a slot that has nothing is one", c, ok)
	}
}

// TestFindTable: P12.3, written out; the first is the chapter's example.
func TestFindTable(t *testing.T) {
	nodes, root, l := chain()
	loop := with(blank(2), 0, 6, node(0, 1))
	for _, c := range []struct {
		t    [][]api.Cap
		root api.Cap
		l    []api.Step
		way  []api.Key
	}{
		{blank(1), node(0, 0), []api.Step{at(0, 3)}, []api.Key{key(0, 3)}},
		{nodes, root, l[:1], []api.Key{key(0, 2)}},
		{nodes, root, l[:2], []api.Key{key(0, 2), key(1, 7)}},
		{nodes, root, l[:3], []api.Key{key(0, 2), key(1, 7), key(2, 0)}},
		{nodes, root, l, []api.Key{key(0, 2), key(1, 7), key(2, 0), key(3, 5)}},
		{nodes, root, append(slices.Clone(l), at(0, 0)), nil},
		{nodes, root, nil, nil},
		{nodes, root, []api.Step{}, nil},
		{nodes, root, []api.Step{at(4, 2), at(7, 7), at(0, 0), at(2, 5)}, nil},
		{nodes, root, []api.Step{at(4, 2), at(7, 7), at(1, 0), at(3, 5)}, nil},
		{nodes, root, []api.Step{at(4, 2), at(0, 7), at(0, 0), at(3, 5)}, nil},
		{nodes, root, []api.Step{at(0, 2), at(7, 7), at(0, 0), at(3, 5)}, nil},
		{nodes, root, []api.Step{at(4, 3), at(7, 7)}, nil},
		{nodes, node(3, 0), []api.Step{at(0, 5), at(0, 0)}, nil},
		{nodes, node(3, 0), []api.Step{at(0, 5)}, []api.Key{key(3, 5)}},
		{loop, node(0, 2), []api.Step{at(2, 6), at(1, 6), at(1, 6), at(1, 6)}, []api.Key{key(0, 6), key(0, 6), key(0, 6), key(0, 6)}},
		{loop, node(0, 2), []api.Step{at(2, 6), at(1, 3)}, []api.Key{key(0, 6), key(0, 3)}},
		{loop, node(0, 2), []api.Step{at(2, 6), at(1, 3), at(1, 6)}, nil},
		{loop, node(1, 0), []api.Step{at(0, 6), at(1, 6)}, nil},
	} {
		want := api.OK
		var last api.Key
		if c.way == nil {
			want = api.ErrAddr
		} else {
			last = c.way[len(c.way)-1]
		}
		if k, way, e := Find(c.t, c.root, c.l); e != want || k != last || !slices.Equal(way, c.way) {
			t.Error(c.root, c.l, k, way, e)
		}
	}
}

// others are c, with one thing another: each Type and all Rights, Badges and Objs about the edges, such as may not be too.
func others(c api.Cap, objs int) []api.Cap {
	all := []api.Cap{{}, c}
	change := func(set func(d *api.Cap, v int), l ...int) {
		for _, v := range append(l, ends...) {
			d := c
			set(&d, v)
			all = append(all, d)
		}
	}
	change(func(d *api.Cap, v int) { d.Type = v }, -2, -1, 0, 1, 2, 3, 4, 5, 6, 7)
	change(func(d *api.Cap, v int) { d.Rights = v }, -15, -1, 0, 1, 2, 3, 4, 5, 6, 7, 8, 9, 10, 11, 12, 13, 14, 15, 16, 17, 31)
	change(func(d *api.Cap, v int) { d.Badge = v }, -1, 0, 1, 2, 3, 4, 5, 6, 7, 8, 9, 15, 65535, 65536, 65543)
	change(func(d *api.Cap, v int) { d.Obj = v }, -1, 0, 1, 2, objs-1, objs, objs+1, 1023, 1024)
	change(func(d *api.Cap, v int) { d.Gen = v }, -1, 0, 1, 4094, 4095, 4096)
	return all
}

// TestEachCapability: P12.3, the root and each capability on the way in all forms, with each guard asked for.
func TestEachCapability(t *testing.T) {
	nodes, root, l := chain()
	nodes = append(nodes, nil, nodes[0][:7], append(slices.Clone(nodes[0]), api.Cap{}), slices.Clone(nodes[1]))
	places := []api.Key{key(0, 2), key(1, 7), key(2, 0)}
	for n := 1; n <= 4; n++ {
		for guard := range 8 {
			for _, c := range others(root, len(nodes)) {
				m := slices.Clone(l[:n])
				m[0].Guard = guard
				holds(t, nodes, c, m)
			}
			for i := range n - 1 {
				p := places[i]
				for _, c := range others(nodes[p.Obj][p.Slot], len(nodes)) {
					m := slices.Clone(l[:n])
					m[i+1].Guard = guard
					holds(t, with(nodes, p.Obj, p.Slot, c), root, m)
				}
			}
		}
	}
}

// TestEachRoot: P12.3, what goes and what does not, written out.
func TestEachRoot(t *testing.T) {
	nodes := append(blank(2), make([]api.Cap, 7), make([]api.Cap, 9), nil, make([]api.Cap, 8))
	for _, c := range []struct {
		root api.Cap
		goes bool
	}{
		{api.Cap{Type: 2, Rights: 1, Badge: 5}, true},
		{api.Cap{Type: 2, Rights: 15, Badge: 5, Obj: 1}, true},
		{api.Cap{Type: 2, Rights: 1, Badge: 5, Obj: 5}, true},
		{api.Cap{Type: 2, Rights: 1, Badge: 5, Obj: 5, Gen: 4095}, true},
		{api.Cap{Type: 2, Rights: 0, Badge: 5}, false},
		{api.Cap{Type: 2, Rights: 14, Badge: 5}, false},
		{api.Cap{Type: 2, Rights: 2, Badge: 5}, false},
		{api.Cap{Type: 2, Rights: 1, Badge: 4}, false},
		{api.Cap{Type: 2, Rights: 1}, false},
		{api.Cap{Type: 0, Rights: 1, Badge: 5}, false},
		{api.Cap{Type: 1, Rights: 1, Badge: 5}, false},
		{api.Cap{Type: 3, Rights: 1, Badge: 5}, false},
		{api.Cap{Type: 4, Rights: 1, Badge: 5}, false},
		{api.Cap{Type: 5, Rights: 15, Badge: 5}, false},
		{api.Cap{Type: 2, Rights: 1, Badge: 5, Obj: 2}, false},
		{api.Cap{Type: 2, Rights: 1, Badge: 5, Obj: 3}, false},
		{api.Cap{Type: 2, Rights: 1, Badge: 5, Obj: 4}, false},
		{api.Cap{Type: 2, Rights: 1, Badge: 5, Obj: 6}, false},
		{api.Cap{Type: 2, Rights: 1, Badge: 5, Obj: -1}, false},
		{api.Cap{Type: 2, Rights: 17, Badge: 5}, false},
		{api.Cap{Type: 2, Rights: -1, Badge: 5}, false},
		{api.Cap{Type: 2, Rights: 1, Badge: 5, Gen: 4096}, false},
		{api.Cap{Type: 2, Rights: 1, Badge: 5, Gen: -1}, false},
		{api.Cap{}, false},
	} {
		want, place := api.ErrAddr, api.Key{}
		if c.goes {
			want, place = api.OK, key(c.root.Obj, 6)
		}
		k, way, e := Find(nodes, c.root, []api.Step{at(5, 6)})
		if e != want || k != place || c.goes && !slices.Equal(way, []api.Key{place}) || !c.goes && len(way) != 0 {
			t.Error(c.root, k, way, e)
		}
		for _, none := range [][][]api.Cap{nil, {}, {nil}, {{}}, {make([]api.Cap, 7)}, {make([]api.Cap, 9)}} {
			if k, way, e := Find(none, c.root, []api.Step{at(5, 6)}); e != api.ErrAddr || k != (api.Key{}) || len(way) != 0 {
				t.Error(none, c.root, k, way, e)
			}
		}
	}
}

// TestManyNodes: P12.3, with more objects than a capability can name: one of MaxObj goes, one behind it may not be.
func TestManyNodes(t *testing.T) {
	nodes := blank(1026)
	for _, obj := range []int{0, 1, 1022, 1023, 1024, 1025} {
		for _, l := range [][]api.Step{{at(0, 7)}, {at(0, 0), at(1, 7)}} {
			root := node(obj, 0)
			if len(l) == 2 {
				nodes[0][0], root = node(obj, 1), node(0, 0)
			}
			if found := holds(t, nodes, root, l); found != (obj <= 1023) {
				t.Fatal(obj, l, found)
			}
		}
	}
}

// TestFind: P12.3, of nodes with something of everything, from many roots, with all addresses whose guards are small.
func TestFind(t *testing.T) {
	all := slices.Concat([][]api.Step{nil, some(3), some(5)}, addresses(1, 0, 1, 2, 5, 7), addresses(2, 0, 1, 2, 5, 7))
	for _, l := range addresses(2, 0, 1, 4) {
		for _, m := range addresses(2, 0, 1, 6) {
			all = append(all, append(slices.Clone(l), m...), append(slices.Clone(l), m[0]))
		}
	}
	found := [5]int{}
	for seed := range 16 {
		nodes := mixed(seed)
		for obj := range 5 {
			for _, l := range all {
				if holds(t, nodes, node(obj, firstGuard(l)), l) {
					found[len(l)]++
				}
			}
		}
	}
	for n, times := range found[1:] {
		if times < 100 {
			t.Fatal("too few were found, of steps:", n+1, times)
		}
	}
}

// firstGuard is that of the first step; 0, if there is none.
func firstGuard(l []api.Step) int {
	if len(l) == 0 {
		return 0
	}
	return l[0].Guard
}

// TestFront: P12.5, of all that is found: its front finds the places ahead of the last one, each front in its turn.
func TestFront(t *testing.T) {
	long := 0
	for seed := range 16 {
		nodes := mixed(seed)
		for _, l := range slices.Concat(addresses(2, 0, 1, 2, 3, 4, 5, 6, 7), addresses(3, 0, 1, 3, 6), addresses(4, 0, 1)) {
			k, way, e := Find(nodes, node(seed%3, l[0].Guard), l)
			if e != api.OK {
				continue
			}
			if len(way) != len(l) || way[len(way)-1] != k {
				t.Fatal(l, k, way)
			}
			for n := len(l) - 1; n > 0; n-- {
				k, front, e := Find(nodes, node(seed%3, l[0].Guard), l[:n])
				if e != api.OK || !slices.Equal(front, way[:n]) || k != way[n-1] {
					t.Fatal(l, way, n, k, front, e)
				}
			}
			if len(l) > 2 {
				long++
			}
		}
	}
	if long < 100 {
		t.Fatal("too few:", long)
	}
}

// TestNoPlaceNoPart: P12.5, another capability in each slot that is no place but the last changes nothing; in another place it does.
func TestNoPlaceNoPart(t *testing.T) {
	nodes, root, l := chain()
	loop := with(with(blank(2), 0, 6, node(1, 1)), 1, 6, node(0, 1))
	for _, c := range []struct {
		t    [][]api.Cap
		root api.Cap
		l    []api.Step
	}{
		{nodes, root, l[:1]}, {nodes, root, l[:2]}, {nodes, root, l[:3]}, {nodes, root, l},
		{loop, node(0, 1), []api.Step{at(1, 6), at(1, 6), at(1, 6)}},
		{loop, node(0, 1), []api.Step{at(1, 6), at(1, 6), at(1, 2)}},
	} {
		k, way, e := Find(c.t, c.root, c.l)
		if e != api.OK {
			t.Fatal(c.l, e)
		}
		for obj := range c.t {
			for slot := range slots {
				for _, d := range others(node(1, 1), len(c.t)) {
					u := with(c.t, obj, slot, d)
					x, other, e := Find(u, c.root, c.l)
					if slices.Contains(way[:len(way)-1], key(obj, slot)) {
						holds(t, u, c.root, c.l)
					} else if e != api.OK || x != k || !slices.Equal(way, other) {
						t.Fatal(c.l, obj, slot, d, x, other, e)
					}
				}
				if slices.Contains(way[:len(way)-1], key(obj, slot)) {
					if _, _, e := Find(with(c.t, obj, slot, api.Cap{}), c.root, c.l); e != api.ErrAddr {
						t.Fatal("without a place's capability", c.l, obj, slot, e)
					}
				}
			}
		}
	}
}

// TestApart: rule 3, what is handed in is as it was, its room too, and answers share no memory with it, or with one another.
func TestApart(t *testing.T) {
	nodes, root, good := chain()
	for _, l := range [][]api.Step{nil, good[:1], good[:2], good[:3], good, some(3), some(5), {at(4, 2), at(8, 0)}, {at(4, -1)}, {at(4, 2), at(6, 0)}} {
		r, u := roomy(l, fillStep), roomyNodes(nodes)
		e := Check(r)
		w, _ := Put(r...)
		k, way, _ := Find(u, root, r)
		got, _ := Get(u, k)
		if !untouched(r, l, fillStep) || !untouchedNodes(u, nodes) {
			t.Fatal("handed in, and changed", l, r, u)
		}
		again := slices.Clone(way)
		spoil(way, key(-7, -7))
		if !untouched(r, l, fillStep) || !untouchedNodes(u, nodes) {
			t.Fatal("the places are in memory that was handed in", l)
		}
		x, other, _ := Find(u, root, r)
		if x != k || !slices.Equal(other, again) {
			t.Fatal("the places are in memory that is kept", l, other)
		}
		spoil(r, at(-7, -7))
		for _, m := range u {
			spoil(m, api.Cap{})
		}
		if !slices.Equal(other, again) {
			t.Fatal("the places hang on what was handed in", l, other)
		}
		if d, _ := Get(nodes, k); d != got || Check(l) != e {
			t.Fatal(l, got, e)
		}
		first, _ := Parse(w)
		second, _ := Parse(w)
		kept := slices.Clone(second)
		spoil(first, at(-7, -7))
		if third, _ := Parse(w); !slices.Equal(second, kept) || !slices.Equal(third, kept) {
			t.Fatal("Parse's answers share memory", l, second, third)
		}
	}
}

package tree

import (
	"math"
	"slices"
	"testing"

	"garrison/api"
)

// The document's limits, written out.
const (
	mostTree = 512
	mostObj  = 1023
	mostSlot = 7
)

// ends are numbers at the ends of int, and such as are small again if bits of them are lost.
var ends = []int{math.MinInt, math.MinInt + 1, math.MinInt + 2, math.MaxInt, math.MaxInt - 1, math.MaxInt - 2,
	1 << 31, -1 << 31, 1 << 32, 1<<32 + 1, -1 << 32, 1 << 58, -1 << 58, 1 << 61, 1 << 62, -1 << 62, 1<<62 + 1}

// key is one of a slot, k one in a short form: of the first slot of object n.
func key(obj, slot int) api.Key { return api.Key{Obj: obj, Slot: slot} }

func k(n int) api.Key { return key(n, 0) }

func at(n, depth int) api.Branch { return api.Branch{Key: k(n), Depth: depth} }

func marked(n, depth int) api.Branch { return api.Branch{Key: k(n), Depth: depth, Mark: true} }

// goodKeys are at the edges of what order.Check lets by, badKeys beyond them.
var goodKeys = []api.Key{key(0, -1), key(0, 0), key(0, 1), key(0, 7), key(1, -1), key(1, 7), key(1022, 7), key(1023, -1), key(1023, 0), key(1023, 7)}

func badKeys() []api.Key {
	bad := []api.Key{key(-1, 0), key(-1, -1), key(-2, 7), key(1024, 0), key(1024, -1), key(1025, 7), key(0, -2), key(0, 8), key(0, 9), key(1023, 8), key(1023, -2), key(-1, 8), key(1024, -2), key(-1, 9), key(1, -10)}
	for _, v := range ends {
		bad = append(bad, key(v, 0), key(v, -1), key(v, 7), key(0, v), key(1023, v), key(v, v))
	}
	return bad
}

// isKey and is are what the documents say of a key and of a tree.
func isKey(k api.Key) bool {
	return k.Obj >= 0 && k.Obj <= mostObj && k.Slot >= -1 && k.Slot <= mostSlot
}

func is(t []api.Branch) bool {
	if len(t) > mostTree {
		return false
	}
	for i, b := range t {
		if !isKey(b.Key) || b.Depth < 0 || i == 0 && b.Depth != 0 {
			return false
		}
		for j := range i {
			if t[j].Key == b.Key {
				return false
			}
		}
		if i > 0 && t[i-1].Depth < b.Depth-1 {
			return false
		}
	}
	return true
}

// place is what the document says of Find, -1 if there is none.
func place(t []api.Branch, k api.Key) int {
	return slices.IndexFunc(t, func(b api.Branch) bool { return b.Key == k })
}

// under is what the document says of Below.
func under(t []api.Branch, k api.Key) []api.Key {
	var keys []api.Key
	i := place(t, k)
	if i < 0 {
		return nil
	}
	for _, b := range t[i+1:] {
		if b.Depth <= t[i].Depth {
			break
		}
		keys = append(keys, b.Key)
	}
	return keys
}

// over is what the document says of Parent: of all branches ahead that are less deep, the last one counts.
func over(t []api.Branch, k api.Key) (p api.Key, ok bool) {
	for j := range max(place(t, k), 0) {
		if t[j].Depth < t[place(t, k)].Depth {
			p, ok = t[j].Key, true
		}
	}
	return p, ok
}

// first is the error that the document names first: those that apply are told in its order.
func first(l ...any) api.Errno {
	for i := 0; i < len(l); i += 2 {
		if l[i].(bool) {
			return l[i+1].(api.Errno)
		}
	}
	return api.OK
}

// change is a call that changes a tree, and what the document says that it answers.
type change struct {
	name string
	do   func(t []api.Branch) ([]api.Branch, api.Errno)
	want func(t []api.Branch) ([]api.Branch, api.Errno)
}

// told is what is to be answered: t as it was, with an error, else what made makes of its copy.
func told(t []api.Branch, e api.Errno, made func(t []api.Branch) []api.Branch) ([]api.Branch, api.Errno) {
	if e != api.OK {
		return t, e
	}
	return made(slices.Clone(t)), e
}

func root(k api.Key) change {
	return change{"root",
		func(t []api.Branch) ([]api.Branch, api.Errno) { return Root(t, k) },
		func(t []api.Branch) ([]api.Branch, api.Errno) {
			e := first(!is(t) || !isKey(k), api.ErrArg, place(t, k) >= 0, api.ErrThere, len(t) >= mostTree, api.ErrMany)
			return told(t, e, func(t []api.Branch) []api.Branch { return append(t, api.Branch{Key: k}) })
		}}
}

func insert(from, k api.Key) change {
	return change{"insert",
		func(t []api.Branch) ([]api.Branch, api.Errno) { return Insert(t, from, k) },
		func(t []api.Branch) ([]api.Branch, api.Errno) {
			e := first(!is(t) || !isKey(from) || !isKey(k), api.ErrArg, place(t, from) < 0, api.ErrNone,
				place(t, k) >= 0, api.ErrThere, len(t) >= mostTree, api.ErrMany)
			return told(t, e, func(t []api.Branch) []api.Branch {
				i := place(t, from)
				return slices.Insert(t, i+1, api.Branch{Key: k, Depth: t[i].Depth + 1})
			})
		}}
}

func remove(k api.Key) change {
	return change{"remove",
		func(t []api.Branch) ([]api.Branch, api.Errno) { return Remove(t, k) },
		func(t []api.Branch) ([]api.Branch, api.Errno) {
			e := first(!is(t) || !isKey(k), api.ErrArg, place(t, k) < 0, api.ErrNone, len(under(t, k)) > 0, api.ErrKids)
			return told(t, e, func(t []api.Branch) []api.Branch { return slices.Delete(t, place(t, k), place(t, k)+1) })
		}}
}

func move(from, to api.Key) change {
	return change{"move",
		func(t []api.Branch) ([]api.Branch, api.Errno) { return Move(t, from, to) },
		func(t []api.Branch) ([]api.Branch, api.Errno) {
			e := first(!is(t) || !isKey(from) || !isKey(to), api.ErrArg, place(t, from) < 0, api.ErrNone, place(t, to) >= 0, api.ErrThere)
			return told(t, e, func(t []api.Branch) []api.Branch {
				t[place(t, from)].Key = to
				return t
			})
		}}
}

func mark(k api.Key, on bool) change {
	return change{"mark",
		func(t []api.Branch) ([]api.Branch, api.Errno) { return Mark(t, k, on) },
		func(t []api.Branch) ([]api.Branch, api.Errno) {
			e := first(!is(t) || !isKey(k), api.ErrArg, place(t, k) < 0, api.ErrNone)
			return told(t, e, func(t []api.Branch) []api.Branch {
				t[place(t, k)].Mark = on
				return t
			})
		}}
}

// changes are all calls that change a tree, with all keys of l, and all pairs of them.
func changes(l []api.Key) []change {
	var all []change
	for _, a := range l {
		all = append(all, root(a), remove(a), mark(a, true), mark(a, false))
		for _, b := range l {
			all = append(all, insert(a, b), move(a, b))
		}
	}
	return all
}

// filling is in the room behind each list that is handed in, spare how much of it there is.
var filling = api.Branch{Key: key(77, 5), Depth: 3, Mark: true}

const spare = 4

func roomy(t []api.Branch) []api.Branch {
	long := append(slices.Clone(t), slices.Repeat([]api.Branch{filling}, spare)...)
	return long[: len(t) : len(t)+spare]
}

// untouched says whether a list that roomy made is still t, and its room too.
func untouched(r, t []api.Branch) bool {
	return slices.Equal(r[:len(t)+spare], append(slices.Clone(t), slices.Repeat([]api.Branch{filling}, spare)...))
}

// spoil writes to all of a list, and to its room.
func spoil[T any](l []T, v T) {
	l = l[:cap(l)]
	for i := range l {
		l[i] = v
	}
}

// does says whether a call answers of t what the document says, and leaves t and what it answers apart from each other.
func does(x *testing.T, c change, t []api.Branch) ([]api.Branch, api.Errno) {
	x.Helper()
	r := roomy(t)
	got, e := c.do(r)
	want, f := c.want(t)
	if e != f || !slices.Equal(got, want) {
		x.Fatal(c.name, t, "is", got, e, "not", want, f)
	}
	answer := slices.Clone(got)
	spoil(got, filling)
	if !untouched(r, t) {
		x.Fatal(c.name, t, "has changed to", r)
	}
	got, _ = c.do(r)
	spoil(r, api.Branch{Key: key(66, 6), Depth: 9})
	if !slices.Equal(got, want) {
		x.Fatal(c.name, t, "is kept in", got)
	}
	return answer, e
}

// asks says whether all that is asked of t is as the document says, of all keys of l.
func asks(x *testing.T, t []api.Branch, l []api.Key) {
	x.Helper()
	r := roomy(t)
	want := api.ErrArg
	if is(t) {
		want = api.OK
	}
	if e := Check(r); e != want {
		x.Fatal(t, e)
	}
	for _, a := range l {
		i, ok := Find(r, a)
		if p := place(t, a); ok != (p >= 0) || i != max(p, 0) {
			x.Fatal("find", t, a, i, ok)
		}
		p, ok := Parent(r, a)
		if q, found := over(t, a); ok != found || p != q {
			x.Fatal("parent", t, a, p, ok)
		}
		below := under(t, a)
		got := Below(r, a)
		if !slices.Equal(got, below) {
			x.Fatal("below", t, a, got)
		}
		spoil(got, key(5, 5))
		for _, b := range l {
			if Descends(r, b, a) != slices.Contains(below, b) {
				x.Fatal("descends", t, b, a)
			}
		}
	}
	if !untouched(r, t) {
		x.Fatal(t, "has changed to", r)
	}
}

// shapes are the depths of all trees of n branches.
func shapes(n int) [][]int {
	if n == 0 {
		return [][]int{nil}
	}
	var all [][]int
	for _, s := range shapes(n - 1) {
		top := 0
		if n > 1 {
			top = s[n-2] + 1
		}
		for depth := range top + 1 {
			all = append(all, append(slices.Clone(s), depth))
		}
	}
	return all
}

// trees are all of up to n branches, with the keys k(0), k(1) and so on; each other one is marked.
func trees(n int) [][]api.Branch {
	var all [][]api.Branch
	for m := range n + 1 {
		for _, s := range shapes(m) {
			t := make([]api.Branch, m)
			for i, depth := range s {
				t[i] = api.Branch{Key: k(i), Depth: depth, Mark: i%2 == 1}
			}
			all = append(all, t)
		}
	}
	return all
}

// lists are all of n branches that have keys and depths of those.
func lists(n int, keys []api.Key, depths []int) [][]api.Branch {
	all := [][]api.Branch{nil}
	for range n {
		var longer [][]api.Branch
		for _, t := range all {
			for _, k := range keys {
				for _, depth := range depths {
					longer = append(longer, append(slices.Clone(t), api.Branch{Key: k, Depth: depth}))
				}
			}
		}
		all = longer
	}
	return all
}

// long is a tree of n branches: of each eight, each is 1 deeper than the one ahead.
func long(n int) []api.Branch {
	t := make([]api.Branch, n)
	for i := range t {
		t[i] = api.Branch{Key: key(i/9, i%9-1), Depth: i % 8, Mark: i%3 == 0}
	}
	return t
}

// deep is a tree of n branches, each derived from the one ahead.
func deep(n int) []api.Branch {
	t := long(n)
	for i := range t {
		t[i].Depth = i
	}
	return t
}

// flat is a tree of n roots.
func flat(n int) []api.Branch {
	t := long(n)
	for i := range t {
		t[i].Depth = 0
	}
	return t
}

// with1 is t, with that branch at a place.
func with1(t []api.Branch, i int, b api.Branch) []api.Branch {
	u := slices.Clone(t)
	u[i] = b
	return u
}

// TestLimits: the document's.
func TestLimits(t *testing.T) {
	if api.MaxTree != mostTree || api.MaxObj != mostObj || api.Slots != mostSlot+1 || api.ErrKids != 130 {
		t.Fatal("limits")
	}
	if api.OK != 0 || api.ErrArg != 2 || api.ErrMany != 6 || api.ErrNone != 7 || api.ErrThere != 8 {
		t.Fatal("errors")
	}
}

// TestCheckTable: P13.1, written out.
func TestCheckTable(t *testing.T) {
	for _, c := range []struct {
		t  []api.Branch
		ok bool
	}{
		{nil, true},
		{[]api.Branch{}, true},
		{[]api.Branch{at(1, 0)}, true},
		{[]api.Branch{marked(1, 0)}, true},
		{[]api.Branch{at(1, -1)}, false},
		{[]api.Branch{at(1, 1)}, false},
		{[]api.Branch{at(1, 2)}, false},
		{[]api.Branch{at(1, math.MinInt)}, false},
		{[]api.Branch{at(1, math.MaxInt)}, false},
		{[]api.Branch{at(1, 0), at(2, 0)}, true},
		{[]api.Branch{at(1, 0), at(2, 1)}, true},
		{[]api.Branch{at(1, 0), at(2, 2)}, false},
		{[]api.Branch{at(1, 0), at(2, -1)}, false},
		{[]api.Branch{at(1, 0), at(2, math.MinInt)}, false},
		{[]api.Branch{at(1, 0), at(2, math.MaxInt)}, false},
		{[]api.Branch{at(1, -1), at(2, 0)}, false},
		{[]api.Branch{at(1, math.MaxInt), at(2, math.MinInt)}, false},
		{[]api.Branch{at(1, math.MaxInt), at(2, 0)}, false},
		{[]api.Branch{at(1, 0), at(2, 1), at(3, 2), at(4, 3)}, true},
		{[]api.Branch{at(1, 0), at(2, 1), at(3, 2), at(4, 0)}, true},
		{[]api.Branch{at(1, 0), at(2, 1), at(3, 2), at(4, 1)}, true},
		{[]api.Branch{at(1, 0), at(2, 1), at(3, 2), at(4, 4)}, false},
		{[]api.Branch{at(1, 0), at(2, 1), at(3, 0), at(4, 2)}, false},
		{[]api.Branch{at(1, 0), at(1, 0)}, false},
		{[]api.Branch{at(1, 0), at(1, 1)}, false},
		{[]api.Branch{at(1, 0), marked(1, 0)}, false},
		{[]api.Branch{at(1, 0), at(2, 1), at(3, 1), at(1, 1)}, false},
		{[]api.Branch{at(1, 0), at(2, 1), at(3, 1), at(2, 1)}, false},
		{[]api.Branch{{Key: key(3, -1)}, {Key: key(3, 0)}, {Key: key(3, 7)}, {Key: key(2, 7)}, {Key: key(4, -1)}}, true},
		{[]api.Branch{{Key: key(3, -1)}, {Key: key(3, 0)}, {Key: key(3, -1)}}, false},
		{[]api.Branch{{Key: key(0, 8)}}, false},
		{[]api.Branch{{Key: key(0, -2)}}, false},
		{[]api.Branch{{Key: key(1024, 0)}}, false},
		{[]api.Branch{{Key: key(-1, 0)}}, false},
	} {
		want := api.ErrArg
		if c.ok {
			want = api.OK
		}
		if e := Check(c.t); e != want {
			t.Error(c.t, e)
		}
	}
}

// TestCheckKeys: P13.1, keys about the edges, at each place of a tree.
func TestCheckKeys(t *testing.T) {
	tree := []api.Branch{at(501, 0), at(502, 1), at(503, 2), at(504, 1)}
	for i := range tree {
		for obj := range 1030 {
			for slot := -4; slot <= 10; slot++ {
				b := api.Branch{Key: key(obj-3, slot), Depth: tree[i].Depth}
				u := with1(tree, i, b)
				if want := is(u); (Check(u) == api.OK) != want {
					t.Fatal(u, want)
				}
			}
		}
		for _, k := range badKeys() {
			if u := with1(tree, i, api.Branch{Key: k, Depth: tree[i].Depth}); Check(u) != api.ErrArg {
				t.Fatal(u)
			}
		}
		for _, k := range goodKeys {
			if u := with1(tree, i, api.Branch{Key: k, Depth: tree[i].Depth}); Check(u) != api.OK {
				t.Fatal(u)
			}
		}
	}
}

// TestCheckDepths: P13.1, each depth at each place of trees of all kinds, those at the ends of int too.
func TestCheckDepths(t *testing.T) {
	depths := append([]int{-2, -1, 0, 1, 2, 3, 4, 5, 6, 7, 8, 9, 40, 41, 512}, ends...)
	for _, tree := range [][]api.Branch{long(40), deep(40), flat(40)} {
		for i := range tree {
			for _, depth := range depths {
				u := slices.Clone(tree)
				u[i].Depth = depth
				want := api.ErrArg
				if is(u) {
					want = api.OK
				}
				if e := Check(u); e != want {
					t.Fatal(i, depth, e)
				}
			}
		}
	}
}

// TestCheckMany: P13.1, as many branches as there may be, and one more; all keys that may be, but no two alike.
func TestCheckMany(t *testing.T) {
	for _, made := range []func(int) []api.Branch{long, deep, flat} {
		for _, n := range []int{0, 1, 2, 510, 511, 512} {
			if e := Check(made(n)); e != api.OK {
				t.Error(n, e)
			}
		}
		for _, n := range []int{513, 514, 1024, 9216} {
			if e := Check(made(n)); e != api.ErrArg {
				t.Error(n, e)
			}
		}
	}
	for from := 0; from < 9216; from += 512 {
		tree := flat(9216)[from : from+512]
		if e := Check(tree); e != api.OK {
			t.Error(from, e)
		}
	}
	tree := long(512)
	for i := range tree {
		for _, j := range []int{0, 1, i - 1, i + 1, 510, 511} {
			if j == i || j < 0 || j > 511 {
				continue
			}
			u := slices.Clone(tree)
			u[i].Key = tree[j].Key
			if e := Check(u); e != api.ErrArg {
				t.Error("two alike", i, j, e)
			}
		}
	}
}

// TestSame: P13.1, of lists that are alike, and of those of which one thing is another.
func TestSame(t *testing.T) {
	if !Same(nil, nil) || !Same(nil, []api.Branch{}) || !Same([]api.Branch{}, nil) || Same(nil, make([]api.Branch, 1)) || Same(make([]api.Branch, 1), nil) {
		t.Error("nothing")
	}
	all := trees(4)
	all = append(all, long(512), deep(512), flat(513), []api.Branch{{Key: key(math.MinInt, math.MaxInt), Depth: math.MinInt}}, []api.Branch{at(1, -1), at(1, -1)})
	for i, a := range all {
		for j, b := range all {
			if Same(roomy(a), slices.Clone(b)) != (i == j) {
				t.Fatal(a, b)
			}
		}
		for p := range a {
			for _, change := range []func(b *api.Branch){
				func(b *api.Branch) { b.Key.Obj++ }, func(b *api.Branch) { b.Key.Slot++ },
				func(b *api.Branch) { b.Depth++ }, func(b *api.Branch) { b.Mark = !b.Mark },
			} {
				u := slices.Clone(a)
				change(&u[p])
				if Same(a, u) || Same(u, a) {
					t.Fatal(a, u)
				}
			}
		}
		if n := len(a); n > 0 && (Same(a, a[:n-1]) || Same(a[:n-1], a) || Same(a, a[1:])) {
			t.Fatal("shorter", a)
		}
	}
}

// TestFindTable: P13.2, written out, in lists that are no trees too.
func TestFindTable(t *testing.T) {
	tree := []api.Branch{at(1, 0), at(2, 1), at(3, 0)}
	twice := []api.Branch{at(9, 0), at(1, 5), at(2, 0), at(1, 0), at(1, -1)}
	odd := []api.Branch{{Key: key(-1, 9)}, {Key: key(math.MinInt, math.MaxInt)}}
	for _, c := range []struct {
		t  []api.Branch
		k  api.Key
		i  int
		ok bool
	}{
		{tree, k(1), 0, true},
		{tree, k(2), 1, true},
		{tree, k(3), 2, true},
		{tree, k(4), 0, false},
		{tree, key(1, -1), 0, false},
		{tree, key(1, 1), 0, false},
		{tree, key(2, -1), 0, false},
		{twice, k(1), 1, true},
		{twice, k(2), 2, true},
		{odd, key(-1, 9), 0, true},
		{odd, key(math.MinInt, math.MaxInt), 1, true},
		{odd, key(math.MaxInt, math.MinInt), 0, false},
		{odd, key(0, 0), 0, false},
		{nil, key(0, 0), 0, false},
		{nil, key(math.MinInt, math.MinInt), 0, false},
		{[]api.Branch{}, k(1), 0, false},
		{long(512), long(512)[511].Key, 511, true},
		{long(600), long(600)[599].Key, 599, true},
	} {
		if i, ok := Find(c.t, c.k); i != c.i || ok != c.ok {
			t.Error(c.t, c.k, i, ok)
		}
	}
}

// TestTable: P13.3, written out; the first four lines are the chapter's example.
func TestTable(t *testing.T) {
	a, ab := []api.Branch{at(1, 0)}, []api.Branch{at(1, 0), at(2, 1)}
	acb := []api.Branch{at(1, 0), at(3, 1), at(2, 1)}
	two := []api.Branch{at(1, 0), at(2, 1), marked(3, 2), at(4, 1), at(5, 0)}
	for i, c := range []struct {
		t    []api.Branch
		do   change
		want []api.Branch
		e    api.Errno
	}{
		{nil, root(k(1)), a, api.OK},
		{a, insert(k(1), k(2)), ab, api.OK},
		{ab, insert(k(1), k(3)), acb, api.OK},
		{acb, remove(k(1)), acb, api.ErrKids},

		{two, root(k(9)), append(slices.Clone(two), at(9, 0)), api.OK},
		{two, root(k(3)), two, api.ErrThere},
		{two, root(key(1, 8)), two, api.ErrArg},
		{two, root(key(1, -1)), append(slices.Clone(two), api.Branch{Key: key(1, -1)}), api.OK},
		{two, insert(k(1), k(9)), []api.Branch{at(1, 0), at(9, 1), at(2, 1), marked(3, 2), at(4, 1), at(5, 0)}, api.OK},
		{two, insert(k(2), k(9)), []api.Branch{at(1, 0), at(2, 1), at(9, 2), marked(3, 2), at(4, 1), at(5, 0)}, api.OK},
		{two, insert(k(3), k(9)), []api.Branch{at(1, 0), at(2, 1), marked(3, 2), at(9, 3), at(4, 1), at(5, 0)}, api.OK},
		{two, insert(k(5), k(9)), []api.Branch{at(1, 0), at(2, 1), marked(3, 2), at(4, 1), at(5, 0), at(9, 1)}, api.OK},
		{two, insert(k(8), k(9)), two, api.ErrNone},
		{two, insert(k(8), k(3)), two, api.ErrNone},
		{two, insert(k(8), k(8)), two, api.ErrNone},
		{two, insert(k(1), k(3)), two, api.ErrThere},
		{two, insert(k(3), k(3)), two, api.ErrThere},
		{two, insert(k(8), key(0, 8)), two, api.ErrArg},
		{two, insert(key(0, 8), k(3)), two, api.ErrArg},
		{two, remove(k(1)), two, api.ErrKids},
		{two, remove(k(2)), two, api.ErrKids},
		{two, remove(k(3)), []api.Branch{at(1, 0), at(2, 1), at(4, 1), at(5, 0)}, api.OK},
		{two, remove(k(4)), []api.Branch{at(1, 0), at(2, 1), marked(3, 2), at(5, 0)}, api.OK},
		{two, remove(k(5)), []api.Branch{at(1, 0), at(2, 1), marked(3, 2), at(4, 1)}, api.OK},
		{two, remove(k(6)), two, api.ErrNone},
		{two, remove(key(-1, 0)), two, api.ErrArg},
		{[]api.Branch{at(1, 0), at(2, 0)}, remove(k(1)), []api.Branch{at(2, 0)}, api.OK},
		{a, remove(k(1)), nil, api.OK},
		{two, move(k(3), k(9)), []api.Branch{at(1, 0), at(2, 1), marked(9, 2), at(4, 1), at(5, 0)}, api.OK},
		{two, move(k(1), k(9)), []api.Branch{at(9, 0), at(2, 1), marked(3, 2), at(4, 1), at(5, 0)}, api.OK},
		{two, move(k(5), k(9)), []api.Branch{at(1, 0), at(2, 1), marked(3, 2), at(4, 1), at(9, 0)}, api.OK},
		{two, move(k(3), k(3)), two, api.ErrThere},
		{two, move(k(3), k(1)), two, api.ErrThere},
		{two, move(k(9), k(3)), two, api.ErrNone},
		{two, move(k(9), k(9)), two, api.ErrNone},
		{two, move(k(9), key(0, -2)), two, api.ErrArg},
		{two, move(key(1024, 0), k(3)), two, api.ErrArg},
		{two, mark(k(2), true), []api.Branch{at(1, 0), marked(2, 1), marked(3, 2), at(4, 1), at(5, 0)}, api.OK},
		{two, mark(k(3), true), two, api.OK},
		{two, mark(k(3), false), []api.Branch{at(1, 0), at(2, 1), at(3, 2), at(4, 1), at(5, 0)}, api.OK},
		{two, mark(k(1), false), two, api.OK},
		{two, mark(k(9), true), two, api.ErrNone},
		{two, mark(key(9, 8), true), two, api.ErrArg},

		{nil, insert(k(1), k(2)), nil, api.ErrNone},
		{nil, remove(k(1)), nil, api.ErrNone},
		{nil, move(k(1), k(2)), nil, api.ErrNone},
		{nil, mark(k(1), true), nil, api.ErrNone},
		{nil, mark(key(0, 0), true), nil, api.ErrNone},
		{[]api.Branch{at(1, 1)}, root(k(2)), []api.Branch{at(1, 1)}, api.ErrArg},
		{[]api.Branch{at(1, 1)}, root(k(1)), []api.Branch{at(1, 1)}, api.ErrArg},
		{[]api.Branch{at(1, 0), at(1, 0)}, remove(k(1)), []api.Branch{at(1, 0), at(1, 0)}, api.ErrArg},
	} {
		got, e := c.do.do(roomy(c.t))
		if e != c.e || !slices.Equal(got, c.want) {
			t.Error(i, c.do.name, c.t, got, e)
		}
		does(t, c.do, c.t)
	}
}

// TestFull: P13.3, P13.5, at MaxTree branches, at one less and at one more.
func TestFull(t *testing.T) {
	fresh := key(1000, 3)
	for _, made := range []func(int) []api.Branch{long, deep, flat} {
		for _, n := range []int{510, 511, 512, 513, 600} {
			tree := made(n)
			want := first(n > 512, api.ErrArg, n == 512, api.ErrMany)
			for _, c := range []change{root(fresh), insert(tree[0].Key, fresh), insert(tree[n/2].Key, fresh), insert(tree[n-1].Key, fresh)} {
				got, e := does(t, c, tree)
				if e != want || e == api.OK && (len(got) != n+1 || Check(got) != api.OK) || e != api.OK && !slices.Equal(got, tree) {
					t.Fatal(c.name, n, e)
				}
			}
			for _, c := range []change{root(tree[0].Key), root(tree[n-1].Key), insert(tree[0].Key, tree[n-1].Key), insert(tree[3].Key, tree[3].Key), move(tree[0].Key, tree[n-1].Key)} {
				if _, e := does(t, c, tree); e != first(n > 512, api.ErrArg, true, api.ErrThere) {
					t.Fatal(c.name, n, e)
				}
			}
			for _, c := range []change{insert(fresh, fresh), insert(fresh, tree[0].Key), remove(fresh), move(fresh, tree[0].Key), mark(fresh, true)} {
				if _, e := does(t, c, tree); e != first(n > 512, api.ErrArg, true, api.ErrNone) {
					t.Fatal(c.name, n, e)
				}
			}
			for _, c := range []change{root(key(0, 8)), insert(tree[0].Key, key(0, 8)), insert(key(0, 8), fresh), remove(key(-1, 0)), move(tree[0].Key, key(1024, 0)), mark(key(0, -2), true)} {
				if _, e := does(t, c, tree); e != api.ErrArg {
					t.Fatal(c.name, n, e)
				}
			}
			for i := range tree {
				if i > 9 && i < n-9 && i%19 != 0 {
					continue
				}
				does(t, remove(tree[i].Key), tree)
				does(t, move(tree[i].Key, fresh), tree)
				does(t, mark(tree[i].Key, i%2 == 0), tree)
				does(t, insert(tree[i].Key, fresh), tree)
			}
		}
	}
}

// TestAllTrees: P13.1 to P13.4, of all trees of up to six branches, with each of their keys, some others and some that may not be.
func TestAllTrees(t *testing.T) {
	keys := []api.Key{k(0), k(1), k(2), k(3), k(4), k(5), k(6), key(0, -1), key(3, 8), key(1024, 0)}
	all := changes(keys)
	count := 0
	for _, tree := range trees(6) {
		if Check(tree) != api.OK {
			t.Fatal(tree)
		}
		asks(t, tree, keys)
		for _, c := range all {
			if got, e := does(t, c, tree); e == api.OK {
				count++
				asks(t, got, keys[:7])
			}
		}
	}
	if count == 0 {
		t.Fatal("none was changed")
	}
}

// TestAllLists: P13.1 to P13.4, of all lists of up to three branches, trees or not, of few keys and depths.
func TestAllLists(t *testing.T) {
	keys := []api.Key{k(1), key(1, -1), key(1, 8), k(2)}
	all := changes(append(slices.Clone(keys), k(3)))
	for n := range 4 {
		for _, l := range lists(n, keys, []int{-1, 0, 1, 2}) {
			asks(t, l, keys)
			for _, c := range all {
				does(t, c, l)
			}
		}
	}
	for _, l := range lists(4, keys[:2], []int{-1, 0, 1, 2, 3}) {
		asks(t, l, keys)
	}
}

// TestAskTable: P13.4, written out, in lists that are no trees too.
func TestAskTable(t *testing.T) {
	tree := []api.Branch{at(1, 0), at(2, 1), at(3, 2), at(4, 2), at(5, 1), at(6, 0), at(7, 1)}
	gaps := []api.Branch{at(1, 3), at(2, 9), at(3, 5), at(4, 4), at(5, 3), at(6, -1), at(7, math.MaxInt), at(8, math.MinInt), at(9, math.MaxInt)}
	twice := []api.Branch{at(1, 0), at(2, 1), at(1, 2), at(3, 1), at(2, 0), at(4, 1)}
	for _, c := range []struct {
		t      []api.Branch
		k      int
		below  []api.Key
		parent int // 0: none
	}{
		{tree, 1, []api.Key{k(2), k(3), k(4), k(5)}, 0},
		{tree, 2, []api.Key{k(3), k(4)}, 1},
		{tree, 3, nil, 2},
		{tree, 4, nil, 2},
		{tree, 5, nil, 1},
		{tree, 6, []api.Key{k(7)}, 0},
		{tree, 7, nil, 6},
		{tree, 8, nil, 0},
		{tree[:1], 1, nil, 0},
		{nil, 1, nil, 0},
		{gaps, 1, []api.Key{k(2), k(3), k(4)}, 0},
		{gaps, 2, nil, 1},
		{gaps, 3, nil, 1},
		{gaps, 4, nil, 1},
		{gaps, 5, nil, 0},
		{gaps, 6, []api.Key{k(7)}, 0},
		{gaps, 7, nil, 6},
		{gaps, 8, []api.Key{k(9)}, 0},
		{gaps, 9, nil, 8},
		{twice, 1, []api.Key{k(2), k(1), k(3)}, 0},
		{twice, 2, []api.Key{k(1)}, 1},
		{twice, 3, nil, 1},
		{twice, 4, nil, 2},
	} {
		got := Below(c.t, k(c.k))
		if !slices.Equal(got, c.below) {
			t.Error(c.t, c.k, got)
		}
		p, ok := Parent(c.t, k(c.k))
		if ok != (c.parent != 0) || p != (api.Key{Obj: c.parent}) {
			t.Error(c.t, c.k, p, ok)
		}
		for n := range 11 {
			if Descends(c.t, k(n), k(c.k)) != slices.Contains(c.below, k(n)) {
				t.Error(c.t, n, c.k)
			}
		}
	}
	if !Descends(twice, k(1), k(1)) || !Descends(twice, k(1), k(2)) || !Descends(twice, k(2), k(1)) || Descends(twice, k(4), k(2)) {
		t.Error("in a list that is no tree, what stands there counts alone")
	}
	zero := []api.Branch{{}, {Key: k(1), Depth: 1}}
	if p, ok := Parent(zero, k(1)); !ok || p != (api.Key{}) {
		t.Error("the zero key is one", p, ok)
	}
	if Descends(nil, api.Key{}, api.Key{}) || Descends(zero, api.Key{}, api.Key{}) || !Descends(zero, k(1), api.Key{}) {
		t.Error("the zero key is one")
	}
}

// TestWrong: rule 1, keys and depths at the ends of int, in lists and asked for.
func TestWrong(t *testing.T) {
	keys := append(badKeys(), goodKeys...)
	tree := []api.Branch{at(501, 0), at(502, 1), at(503, 2)}
	for _, a := range keys {
		for _, l := range [][]api.Branch{nil, {}, tree, {{Key: a}}, {{Key: a, Depth: -1}}, {at(501, 0), {Key: a, Depth: 1}}, {{Key: a}, {Key: a}}} {
			asks(t, l, []api.Key{a, k(501), k(502), {}})
			for _, c := range []change{root(a), remove(a), mark(a, true), mark(a, false), insert(a, a), insert(a, k(9)), insert(k(501), a), insert(k(9), a), move(a, a), move(a, k(9)), move(k(501), a), move(k(9), a)} {
				does(t, c, l)
			}
		}
	}
	for _, depth := range ends {
		for _, other := range append([]int{0, 1}, ends...) {
			l := []api.Branch{at(1, 0), at(2, depth), at(3, other)}
			asks(t, l, []api.Key{k(1), k(2), k(3), k(4)})
			for _, c := range changes([]api.Key{k(1), k(2), k(3), k(4)}) {
				does(t, c, l)
			}
			does(t, remove(k(2)), l[1:])
			asks(t, l[1:], []api.Key{k(2), k(3)})
		}
	}
}

// TestManyWrong: rule 1, lists with far too many branches.
func TestManyWrong(t *testing.T) {
	for _, l := range [][]api.Branch{long(9216), deep(9216), make([]api.Branch, 1<<16+1), make([]api.Branch, 1<<16+512)} {
		asks(t, l, []api.Key{{}, k(3), l[len(l)-1].Key})
		for _, c := range []change{root(key(1023, 7)), root(k(2000)), insert(l[0].Key, key(1023, 3)), remove(l[0].Key), remove(l[len(l)-1].Key), move(l[0].Key, key(1023, 3)), mark(l[0].Key, true)} {
			if _, e := does(t, c, l); e != api.ErrArg {
				t.Fatal(c.name, e)
			}
		}
	}
}

// TestStays: P13.5, of all trees of up to six branches: what follows a tree is one, and what was inserted is where it must be, and away again.
func TestStays(t *testing.T) {
	fresh := key(9, -1)
	for _, tree := range trees(6) {
		for _, b := range tree {
			grown, e := Insert(tree, b.Key, fresh)
			if e != api.OK || Check(grown) != api.OK || len(grown) != len(tree)+1 {
				t.Fatal(tree, b, grown, e)
			}
			p, ok := Parent(grown, fresh)
			if !ok || p != b.Key || len(Below(grown, fresh)) != 0 {
				t.Fatal(grown, p, ok)
			}
			for _, one := range tree {
				above := one.Key == b.Key || Descends(tree, b.Key, one.Key)
				if Descends(grown, fresh, one.Key) != above || Descends(grown, one.Key, fresh) {
					t.Fatal(grown, one)
				}
				for _, two := range tree {
					if Descends(grown, one.Key, two.Key) != Descends(tree, one.Key, two.Key) {
						t.Fatal("others are as they were", tree, grown)
					}
				}
			}
			back, e := Remove(grown, fresh)
			if e != api.OK || !Same(back, tree) {
				t.Fatal(tree, grown, back, e)
			}
			moved, e := Move(tree, b.Key, fresh)
			if e != api.OK || Check(moved) != api.OK {
				t.Fatal(moved, e)
			}
			if back, e := Move(moved, fresh, b.Key); e != api.OK || !Same(back, tree) {
				t.Fatal(back, e)
			}
			if less, e := Remove(tree, b.Key); Check(less) != api.OK || (e == api.OK) != (len(Below(tree, b.Key)) == 0) {
				t.Fatal(tree, less, e)
			}
			if m, e := Mark(tree, b.Key, !b.Mark); e != api.OK || Check(m) != api.OK || Same(m, tree) {
				t.Fatal(m, e)
			}
		}
		grown, e := Root(tree, fresh)
		if _, ok := Parent(grown, fresh); e != api.OK || ok || Check(grown) != api.OK {
			t.Fatal(tree, grown, e)
		}
		if back, e := Remove(grown, fresh); e != api.OK || !Same(back, tree) {
			t.Fatal(tree, grown, back, e)
		}
	}
}

// TestGrows: P13.5, a long row of calls that a rule's sums choose, from nothing up to MaxTree branches and down again.
func TestGrows(t *testing.T) {
	var tree []api.Branch
	n, most := 1, 0
	for step := range 6000 {
		n = (n*1103515245 + 12345) % (1 << 31)
		pick := n >> 8
		a, b := key(pick%97, pick/97%9-1), key(pick/873%97, pick/84681%9-1)
		if len(tree) > 0 {
			a = tree[pick%len(tree)].Key
		}
		c := []change{insert(a, b), root(b), insert(a, b), mark(a, pick%2 == 0), move(a, b), remove(a)}[pick/7%6]
		if step > 4000 {
			c = remove(a)
		}
		got, e := does(t, c, tree)
		if Check(got) != api.OK || e == api.ErrArg {
			t.Fatal(c.name, e)
		}
		tree = got
		most = max(most, len(tree))
	}
	if most != 512 || len(tree) > 300 {
		t.Fatal("that was no long row", most, len(tree))
	}
}

// TestOrder: P13.6, of all trees of up to seven branches.
func TestOrder(t *testing.T) {
	for _, tree := range trees(7) {
		for i, a := range tree {
			if Descends(tree, a.Key, a.Key) {
				t.Fatal("of itself", tree, a)
			}
			if want := family(tree, a.Key); !slices.Equal(Below(tree, a.Key), want) {
				t.Fatal("children, and theirs", tree, a, want)
			}
			for _, b := range tree[i+1:] {
				up := Descends(tree, b.Key, a.Key)
				if Descends(tree, a.Key, b.Key) {
					t.Fatal("the other way", tree, a, b)
				}
				for _, c := range tree {
					if up && Descends(tree, c.Key, b.Key) && !Descends(tree, c.Key, a.Key) {
						t.Fatal("what descends from what descends", tree, a, b, c)
					}
				}
			}
		}
	}
}

// family are all whose Parent is k, each with its own family behind it.
func family(t []api.Branch, k api.Key) []api.Key {
	var all []api.Key
	for _, b := range t {
		if p, ok := Parent(t, b.Key); ok && p == k {
			all = append(append(all, b.Key), family(t, b.Key)...)
		}
	}
	return all
}

// TestApart: rule 3, two answers to the same call share nothing, whether with an error or not, and the room behind the list that was handed in is not used.
func TestApart(t *testing.T) {
	tree := []api.Branch{at(1, 0), at(2, 1), at(3, 0)}
	for _, l := range [][]api.Branch{tree, tree[:1], tree[:0], {at(1, 1), at(2, 9)}} {
		for _, c := range changes([]api.Key{k(1), k(2), k(3), k(4), key(0, 8)}) {
			r := roomy(l)
			one, _ := c.do(r)
			two, _ := c.do(r)
			want, _ := c.want(l)
			spoil(one, filling)
			if !slices.Equal(two, want) || !untouched(r, l) {
				t.Fatal(c.name, l, two)
			}
			spoil(append(two, filling), filling)
			if !untouched(r, l) {
				t.Fatal(c.name, l, r)
			}
		}
		one, two := Below(l, k(1)), Below(l, k(1))
		spoil(one, key(5, 5))
		if !slices.Equal(two, under(l, k(1))) {
			t.Fatal(l, two)
		}
	}
}

package ghost

import (
	"math"
	"slices"
	"testing"

	"garrison/api"
	"garrison/tree"
)

// The document's limits, written out.
const (
	mostBorn = 4096
	mostObj  = 1023
	mostSlot = 7
)

// ends are numbers at the ends of int, and such as are small again if bits of them are lost.
var ends = []int{math.MinInt, math.MinInt + 1, math.MinInt + 2, math.MaxInt, math.MaxInt - 1, math.MaxInt - 2,
	1 << 31, -1 << 31, 1 << 32, 1<<32 + 1, -1 << 32, 1 << 58, -1 << 58, 1 << 61, 1 << 62, -1 << 62, 1<<62 + 1}

// key is one of a slot, k one in a short form: of the first slot of object n.
func key(obj, slot int) api.Key { return api.Key{Obj: obj, Slot: slot} }

func k(n int) api.Key { return key(n, 0) }

// ks are keys in that short form.
func ks(l ...int) []api.Key {
	var keys []api.Key
	for _, n := range l {
		keys = append(keys, k(n))
	}
	return keys
}

func root(n int) api.Birth { return api.Birth{Kind: api.BiRoot, Key: k(n)} }

func die(n int) api.Birth { return api.Birth{Kind: api.BiDie, Key: k(n)} }

func derive(from, n int) api.Birth { return api.Birth{Kind: api.BiDerive, Key: k(n), From: k(from)} }

func move(from, n int) api.Birth { return api.Birth{Kind: api.BiMove, Key: k(n), From: k(from)} }

// births are all of the four kinds, with all keys of l, and all pairs of them.
func births(l []api.Key) []api.Birth {
	var all []api.Birth
	for _, a := range l {
		for _, b := range l {
			for kind := 1; kind <= 4; kind++ {
				all = append(all, api.Birth{Kind: kind, Key: a, From: b})
			}
		}
	}
	return all
}

// goodKeys are at the edges of what order.Check lets by, badKeys beyond them.
var goodKeys = []api.Key{key(0, -1), key(0, 0), key(0, 1), key(0, 7), key(1, -1), key(1, 7), key(1022, 7), key(1023, -1), key(1023, 0), key(1023, 7)}

func badKeys() []api.Key {
	bad := []api.Key{key(-1, 0), key(-1, -1), key(-2, 7), key(1024, 0), key(1024, -1), key(1025, 7), key(0, -2), key(0, 8), key(0, 9), key(1023, 8), key(1023, -2), key(-1, 8), key(1024, -2), key(-1, 9), key(1, -10)}
	for _, v := range ends {
		bad = append(bad, key(v, 0), key(v, -1), key(v, 7), key(0, v), key(1023, v), key(v, v))
	}
	return bad
}

// isKey and is are what the documents say of a key and of a ghost.
func isKey(k api.Key) bool {
	return k.Obj >= 0 && k.Obj <= mostObj && k.Slot >= -1 && k.Slot <= mostSlot
}

func is(g api.Ghost) bool {
	if len(g.Keys) != len(g.Ids) || len(g.From) > mostBorn {
		return false
	}
	keys, ids := map[api.Key]int{}, map[int]int{}
	for i := range g.Keys {
		keys[g.Keys[i]]++
		ids[g.Ids[i]]++
		if !isKey(g.Keys[i]) || g.Ids[i] < 0 || g.Ids[i] > len(g.From)-1 {
			return false
		}
	}
	for i, from := range g.From {
		if from < -1 || from > i-1 {
			return false
		}
	}
	return len(keys) == len(g.Keys) && len(ids) == len(g.Ids)
}

// who is what the document says of Who.
func who(g api.Ghost, k api.Key) (int, bool) {
	for i, one := range g.Keys {
		if one == k && i < len(g.Ids) {
			return g.Ids[i], true
		}
		if one == k {
			return 0, false
		}
	}
	return 0, false
}

// over is what the document says of Above.
func over(g api.Ghost, id int) []int {
	if id < 0 || id >= len(g.From) || g.From[id] <= -1 || g.From[id] >= id {
		return nil
	}
	return append([]int{g.From[id]}, over(g, g.From[id])...)
}

// from is what the document says of Descends.
func from(g api.Ghost, a, b api.Key) bool {
	i, ok := who(g, a)
	j, found := who(g, b)
	return ok && found && slices.Contains(over(g, i), j)
}

// first is the error that the document names first: those that apply are told in its order.
func first(l ...any) api.Errno {
	for i := 0; i < len(l); i += 2 {
		if l[i].(bool) {
			return l[i+1].(api.Errno)
		}
	}
	return api.OK
}

// after is what the document says of Add.
func after(g api.Ghost, b api.Birth) (api.Ghost, api.Errno) {
	has := func(k api.Key) bool { return slices.Contains(g.Keys, k) }
	two := b.Kind == api.BiDerive || b.Kind == api.BiMove
	wrong := !is(g) || b.Kind < 1 || b.Kind > 4 || !isKey(b.Key) || two && !isKey(b.From)
	born := b.Kind == api.BiRoot || b.Kind == api.BiDerive
	e := first(wrong, api.ErrArg, two && !has(b.From), api.ErrNone, b.Kind == api.BiDie && !has(b.Key), api.ErrNone,
		b.Kind != api.BiDie && has(b.Key), api.ErrThere, born && len(g.From) == mostBorn, api.ErrMany)
	n := clone(g)
	if e != api.OK {
		return n, e
	}
	at := slices.Index(g.Keys, b.From)
	switch b.Kind {
	case api.BiRoot:
		at = -1
		fallthrough
	case api.BiDerive:
		parent := -1
		if at >= 0 {
			parent = g.Ids[at]
		}
		n = api.Ghost{Keys: append(n.Keys, b.Key), Ids: append(n.Ids, len(g.From)), From: append(n.From, parent)}
	case api.BiMove:
		n.Keys[at] = b.Key
	case api.BiDie:
		n.Keys, n.Ids = nil, nil
		for i, k := range g.Keys {
			if k != b.Key {
				n.Keys, n.Ids = append(n.Keys, k), append(n.Ids, g.Ids[i])
			}
		}
	}
	return n, api.OK
}

// alike says whether ghosts are the same, without Same.
func alike(a, b api.Ghost) bool {
	return slices.Equal(a.Keys, b.Keys) && slices.Equal(a.Ids, b.Ids) && slices.Equal(a.From, b.From)
}

func clone(g api.Ghost) api.Ghost {
	return api.Ghost{Keys: slices.Clone(g.Keys), Ids: slices.Clone(g.Ids), From: slices.Clone(g.From)}
}

// spare is how much room there is behind each list that is handed in; what is there is fillKey, fillId and fillFrom.
const (
	spare    = 3
	fillId   = 7777
	fillFrom = 8888
)

var fillKey = key(77, 5)

func behind[T any](l []T, v T) []T {
	long := append(slices.Clone(l), slices.Repeat([]T{v}, spare)...)
	return long[: len(l) : len(l)+spare]
}

func roomy(g api.Ghost) api.Ghost {
	return api.Ghost{Keys: behind(g.Keys, fillKey), Ids: behind(g.Ids, fillId), From: behind(g.From, fillFrom)}
}

// untouched says whether a ghost that roomy made is still g, and its room too.
func untouched(r, g api.Ghost) bool {
	all := func(g api.Ghost) api.Ghost {
		return api.Ghost{Keys: g.Keys[:len(g.Keys)+spare], Ids: g.Ids[:len(g.Ids)+spare], From: g.From[:len(g.From)+spare]}
	}
	return alike(r, g) && alike(all(r), all(roomy(g)))
}

// spoil writes to all of a ghost's lists, and to their room.
func spoil(g api.Ghost) {
	fill(g.Keys, key(66, 6))
	fill(g.Ids, 6666)
	fill(g.From, 5555)
}

func fill[T any](l []T, v T) {
	l = l[:cap(l)]
	for i := range l {
		l[i] = v
	}
}

// adds says whether Add answers what the document says, and leaves g and what it answers apart from each other.
func adds(t *testing.T, g api.Ghost, b api.Birth) (api.Ghost, api.Errno) {
	t.Helper()
	r := roomy(g)
	got, e := Add(r, b)
	want, f := after(g, b)
	if e != f || !alike(got, want) {
		t.Fatal(g, b, "is", got, e, "not", want, f)
	}
	spoil(got)
	if !untouched(r, g) {
		t.Fatal(g, b, "has changed to", r)
	}
	got, _ = Add(r, b)
	spoil(r)
	if !alike(got, want) {
		t.Fatal(g, b, "is kept in", got)
	}
	return got, e
}

// asks says whether all that is asked of g is as the document says, of all keys and ids of those.
func asks(t *testing.T, g api.Ghost, keys []api.Key, ids []int) {
	t.Helper()
	r := roomy(g)
	want := first(!is(g), api.ErrArg)
	if e := Check(r); e != want {
		t.Fatal("check", g, e)
	}
	for _, id := range ids {
		got := Above(r, id)
		if !slices.Equal(got, over(g, id)) {
			t.Fatal("above", g, id, got)
		}
		fill(got, 4444)
	}
	for _, a := range keys {
		id, ok := Who(r, a)
		if i, found := who(g, a); id != i || ok != found {
			t.Fatal("who", g, a, id, ok)
		}
		for _, b := range keys {
			if Descends(r, a, b) != from(g, a, b) {
				t.Fatal("descends", g, a, b)
			}
		}
	}
	if !untouched(r, g) {
		t.Fatal(g, "has changed to", r)
	}
}

// row is a ghost with n who ever were, each from the one ahead, with those keys that come first; all are there.
func row(n int) api.Ghost {
	var g api.Ghost
	for i := range n {
		g.Keys = append(g.Keys, key(i/9, i%9-1))
		g.Ids = append(g.Ids, i)
		g.From = append(g.From, i-1)
	}
	return g
}

// roots is the same, each from nobody, the last one first; every third one has died.
func roots(n int) api.Ghost {
	var g api.Ghost
	for i := range n {
		if i%3 != 2 {
			g.Keys = append(g.Keys, key(1023-i/9, i%9-1))
			g.Ids = append(g.Ids, n-1-i)
		}
		g.From = append(g.From, -1)
	}
	return g
}

// gone is the same, but none is there any more.
func gone(n int) api.Ghost { return api.Ghost{From: row(n).From} }

// few is a ghost of four who ever were, of whom the third one has died.
func few() api.Ghost {
	return api.Ghost{Keys: ks(4, 1, 2), Ids: []int{3, 0, 1}, From: []int{-1, 0, 1, 2}}
}

// TestLimits: the document's.
func TestLimits(t *testing.T) {
	if api.MaxBorn != mostBorn || api.MaxObj != mostObj || api.Slots != mostSlot+1 {
		t.Fatal("limits")
	}
	if api.BiRoot != 1 || api.BiDerive != 2 || api.BiMove != 3 || api.BiDie != 4 {
		t.Fatal("kinds")
	}
	if api.OK != 0 || api.ErrArg != 2 || api.ErrMany != 6 || api.ErrNone != 7 || api.ErrThere != 8 {
		t.Fatal("errors")
	}
}

// TestCheckTable: P14.1, written out.
func TestCheckTable(t *testing.T) {
	for i, c := range []struct {
		g  api.Ghost
		ok bool
	}{
		{api.Ghost{}, true},
		{api.Ghost{Keys: []api.Key{}, Ids: []int{}, From: []int{}}, true},
		{api.Ghost{From: []int{-1}}, true},
		{api.Ghost{From: []int{-1, -1, 0, 2, 1}}, true},
		{api.Ghost{From: []int{0}}, false},
		{api.Ghost{From: []int{-2}}, false},
		{api.Ghost{From: []int{1}}, false},
		{api.Ghost{From: []int{-1, 1}}, false},
		{api.Ghost{From: []int{-1, 0, 3, 0}}, false},
		{api.Ghost{From: []int{-1, 0, 0, -2}}, false},
		{api.Ghost{Keys: ks(1)}, false},
		{api.Ghost{Ids: []int{0}}, false},
		{api.Ghost{Keys: ks(1), From: []int{-1}}, false},
		{api.Ghost{Ids: []int{0}, From: []int{-1}}, false},
		{api.Ghost{Keys: ks(1), Ids: []int{0}}, false},
		{api.Ghost{Keys: ks(1), Ids: []int{-1}}, false},
		{api.Ghost{Keys: ks(1), Ids: []int{0}, From: []int{-1}}, true},
		{api.Ghost{Keys: ks(1), Ids: []int{-1}, From: []int{-1}}, false},
		{api.Ghost{Keys: ks(1), Ids: []int{1}, From: []int{-1}}, false},
		{api.Ghost{Keys: ks(1, 2), Ids: []int{1, 0}, From: []int{-1, 0}}, true},
		{api.Ghost{Keys: ks(1, 2), Ids: []int{1}, From: []int{-1, 0}}, false},
		{api.Ghost{Keys: ks(1), Ids: []int{1, 0}, From: []int{-1, 0}}, false},
		{api.Ghost{Keys: ks(1, 2), Ids: []int{0, 0}, From: []int{-1, 0}}, false},
		{api.Ghost{Keys: ks(1, 1), Ids: []int{0, 1}, From: []int{-1, 0}}, false},
		{api.Ghost{Keys: ks(1, 2, 1), Ids: []int{0, 1, 2}, From: []int{-1, 0, 0}}, false},
		{api.Ghost{Keys: ks(1, 2, 3), Ids: []int{2, 1, 2}, From: []int{-1, 0, 0}}, false},
		{api.Ghost{Keys: ks(1, 2, 3), Ids: []int{0, 1, 2}, From: []int{-1, 0}}, false},
		{api.Ghost{Keys: ks(3, 2, 1), Ids: []int{4, 2, 0}, From: []int{-1, 0, 0, -1, 3}}, true},
		{api.Ghost{Keys: []api.Key{key(3, -1), key(3, 0), key(3, 7), key(2, 7), key(4, -1)}, Ids: []int{0, 1, 2, 3, 4}, From: []int{-1, -1, -1, -1, -1}}, true},
		{api.Ghost{Keys: []api.Key{key(3, -1), key(3, 0), key(3, -1)}, Ids: []int{0, 1, 2}, From: []int{-1, -1, -1}}, false},
		{api.Ghost{Keys: []api.Key{key(0, 8)}, Ids: []int{0}, From: []int{-1}}, false},
		{api.Ghost{Keys: []api.Key{key(0, -2)}, Ids: []int{0}, From: []int{-1}}, false},
		{api.Ghost{Keys: []api.Key{key(1024, 0)}, Ids: []int{0}, From: []int{-1}}, false},
		{api.Ghost{Keys: []api.Key{key(-1, 0)}, Ids: []int{0}, From: []int{-1}}, false},
		{few(), true},
	} {
		if e := Check(c.g); e != first(!c.ok, api.ErrArg) {
			t.Error(i, c.g, e)
		}
	}
}

// TestCheckCounts: P14.1, a Key more or fewer than Ids, and some more.
func TestCheckCounts(t *testing.T) {
	for _, g := range []api.Ghost{row(1), row(2), row(40), few(), roots(41), row(mostBorn)} {
		n := len(g.Keys)
		less, fewer, long, longer := clone(g), clone(g), clone(g), clone(g)
		less.Keys, fewer.Ids = g.Keys[:n-1], g.Ids[:n-1]
		long.Keys, longer.Ids = append(long.Keys, key(1023, 7)), append(longer.Ids, 0)
		none, nobody := clone(g), clone(g)
		none.Keys, nobody.Ids = nil, nil
		for i, bad := range []api.Ghost{less, fewer, long, longer, none, nobody} {
			if Check(bad) != api.ErrArg {
				t.Error(n, i)
			}
		}
		less.Ids = g.Ids[:n-1]
		if Check(g) != api.OK || Check(less) != api.OK {
			t.Error(n)
		}
	}
}

// TestCheckAlike: P14.1, two Keys alike and two Ids alike, next to each other and far apart.
func TestCheckAlike(t *testing.T) {
	for _, g := range []api.Ghost{row(30), roots(45), row(mostBorn), roots(mostBorn)} {
		n := len(g.Keys)
		for _, i := range []int{0, 1, 2, 7, n / 2, n - 3, n - 2, n - 1} {
			for _, j := range []int{0, 1, i - 1, i + 1, n / 3, n - 2, n - 1} {
				if j < 0 || j >= n || j == i {
					continue
				}
				keys, ids := clone(g), clone(g)
				keys.Keys[i], ids.Ids[i] = g.Keys[j], g.Ids[j]
				if Check(keys) != api.ErrArg || Check(ids) != api.ErrArg {
					t.Error(n, i, j)
				}
				g.Keys[i], g.Keys[j] = g.Keys[j], g.Keys[i]
				g.Ids[0], g.Ids[j] = g.Ids[j], g.Ids[0]
				if Check(g) != api.OK {
					t.Error("in another order", n, i, j)
				}
			}
		}
	}
}

// TestCheckNumbers: P14.1, Ids and elements of From at and about the edges, at each place, and at the ends of int.
func TestCheckNumbers(t *testing.T) {
	for _, g := range []api.Ghost{row(1), row(12), roots(20), gone(9), few()} {
		n := len(g.From)
		for i := range g.Ids {
			for _, id := range append([]int{-2, -1, 0, 1, i, n - 2, n - 1, n, n + 1, mostBorn}, ends...) {
				h := clone(g)
				h.Ids[i] = id
				if Check(h) != first(!is(h), api.ErrArg) || (id < 0 || id >= n) && Check(h) == api.OK {
					t.Error(h, i, id)
				}
			}
		}
		for i := range g.From {
			for _, parent := range append([]int{-3, -2, -1, 0, i - 2, i - 1, i, i + 1, n - 1, n, mostBorn}, ends...) {
				h := clone(g)
				h.From[i] = parent
				if ok := parent >= -1 && parent < i; (Check(h) == api.OK) != ok {
					t.Error(h, i, parent)
				}
			}
		}
	}
	// The only Id may be each that ever was, and no other.
	for id := -3; id < 12; id++ {
		g := api.Ghost{Keys: ks(5), Ids: []int{id}, From: row(9).From}
		if Check(g) != first(id < 0 || id > 8, api.ErrArg) {
			t.Error(id)
		}
	}
}

// TestCheckKeys: P14.1, keys about the edges, at each place of a ghost.
func TestCheckKeys(t *testing.T) {
	g := api.Ghost{Keys: ks(501, 502, 503), Ids: []int{2, 0, 3}, From: []int{-1, -1, 0, 2}}
	for i := range g.Keys {
		for obj := -3; obj < 1028; obj++ {
			for slot := -4; slot <= 10; slot++ {
				h := clone(g)
				h.Keys[i] = key(obj, slot)
				if (Check(h) == api.OK) != is(h) {
					t.Fatal(h)
				}
			}
		}
		for _, k := range badKeys() {
			h := clone(g)
			h.Keys[i] = k
			if Check(h) != api.ErrArg {
				t.Fatal(h)
			}
		}
		for _, k := range goodKeys {
			h := clone(g)
			h.Keys[i] = k
			if Check(h) != api.OK {
				t.Fatal(h)
			}
		}
	}
}

// TestCheckMany: P14.1, as many who ever were as may be, and one more; rule 1: far too many.
func TestCheckMany(t *testing.T) {
	for _, made := range []func(int) api.Ghost{row, roots, gone} {
		for _, n := range []int{0, 1, 2, 1000, 4094, 4095, 4096} {
			if e := Check(made(n)); e != api.OK {
				t.Error(n, e)
			}
		}
		for _, n := range []int{4097, 4098, 8192, 9216} {
			if e := Check(made(n)); e != api.ErrArg {
				t.Error(n, e)
			}
		}
	}
	for _, n := range []int{1 << 16, 1<<16 + 4096, 1 << 20} {
		for _, g := range []api.Ghost{{From: make([]int, n)}, {Keys: make([]api.Key, n), Ids: make([]int, n)}, {Keys: make([]api.Key, n), Ids: make([]int, n), From: row(40).From}, gone(n)} {
			if Check(g) != api.ErrArg {
				t.Error(n)
			}
			if h, e := Add(g, root(3)); e != api.ErrArg || !alike(g, h) {
				t.Error(n, e)
			}
			Who(g, k(3))
			Descends(g, k(0), k(0))
			if l := Above(g, n-1); len(g.From) != n && len(l) != 0 {
				t.Error(n, len(l))
			}
		}
	}
}

// TestSame: P14.1, of ghosts that are alike, and of those of which one thing is another.
func TestSame(t *testing.T) {
	empty := api.Ghost{Keys: []api.Key{}, Ids: []int{}, From: []int{}}
	if !Same(api.Ghost{}, api.Ghost{}) || !Same(api.Ghost{}, empty) || !Same(empty, api.Ghost{}) {
		t.Error("nil and an empty list are the same")
	}
	bad := api.Ghost{Keys: []api.Key{key(-5, 99), key(-5, 99)}, Ids: []int{math.MinInt}, From: []int{7, 7, math.MaxInt}}
	for _, g := range []api.Ghost{few(), row(20), roots(33), bad} {
		r := roomy(g)
		if !Same(g, clone(g)) || !Same(clone(g), g) || !Same(r, g) || Same(g, api.Ghost{}) || Same(api.Ghost{}, g) {
			t.Error(g)
		}
		var others []api.Ghost
		for i := range g.Keys {
			one, two, three := clone(g), clone(g), clone(g)
			one.Keys[i].Obj++
			two.Keys[i].Slot--
			three.Keys = slices.Delete(three.Keys, i, i+1)
			others = append(others, one, two, three)
		}
		for i := range g.Ids {
			one, two := clone(g), clone(g)
			one.Ids[i]++
			two.Ids = slices.Delete(two.Ids, i, i+1)
			others = append(others, one, two)
		}
		for i := range g.From {
			one, two := clone(g), clone(g)
			one.From[i]--
			two.From = two.From[:i]
			others = append(others, one, two)
		}
		one, two, three := clone(g), clone(g), clone(g)
		one.Keys, two.Ids, three.From = append(one.Keys, api.Key{}), append(two.Ids, 0), append(three.From, 0)
		for _, other := range append(others, one, two, three) {
			if Same(g, other) || Same(other, g) {
				t.Error(g, other)
			}
		}
		if !untouched(r, g) {
			t.Error(g, r)
		}
	}
	turned := few()
	slices.Reverse(turned.Keys)
	slices.Reverse(turned.Ids)
	if Same(few(), turned) {
		t.Error("who is where is the same, but not the lists")
	}
}

// TestExample: the document's.
func TestExample(t *testing.T) {
	g, n := Run(root(1), derive(1, 2), move(2, 3), die(1))
	if n != 0 || !alike(g, api.Ghost{Keys: ks(3), Ids: []int{1}, From: []int{-1, 0}}) {
		t.Fatal(g, n)
	}
	if id, ok := Who(g, k(3)); id != 1 || !ok || !slices.Equal(Above(g, 1), []int{0}) || Descends(g, k(3), k(1)) {
		t.Fatal(id, ok)
	}
	if _, ok := Who(g, k(1)); ok {
		t.Fatal("who is nowhere")
	}
}

// TestAddTable: P14.2, written out.
func TestAddTable(t *testing.T) {
	g := few()
	from := []int{-1, 0, 1, 2}
	one := api.Ghost{Keys: ks(1), Ids: []int{0}, From: []int{-1}}
	for i, c := range []struct {
		g    api.Ghost
		b    api.Birth
		want api.Ghost
		e    api.Errno
	}{
		{api.Ghost{}, root(1), one, api.OK},
		{api.Ghost{}, api.Birth{Kind: api.BiRoot}, api.Ghost{Keys: ks(0), Ids: []int{0}, From: []int{-1}}, api.OK},
		{api.Ghost{}, derive(1, 2), api.Ghost{}, api.ErrNone},
		{api.Ghost{}, derive(0, 0), api.Ghost{}, api.ErrNone},
		{api.Ghost{}, move(1, 2), api.Ghost{}, api.ErrNone},
		{api.Ghost{}, die(1), api.Ghost{}, api.ErrNone},
		{api.Ghost{}, api.Birth{}, api.Ghost{}, api.ErrArg},
		{g, root(9), api.Ghost{Keys: ks(4, 1, 2, 9), Ids: []int{3, 0, 1, 4}, From: []int{-1, 0, 1, 2, -1}}, api.OK},
		{g, root(3), api.Ghost{Keys: ks(4, 1, 2, 3), Ids: []int{3, 0, 1, 4}, From: []int{-1, 0, 1, 2, -1}}, api.OK},
		{g, root(4), g, api.ErrThere},
		{g, root(2), g, api.ErrThere},
		{g, derive(4, 9), api.Ghost{Keys: ks(4, 1, 2, 9), Ids: []int{3, 0, 1, 4}, From: []int{-1, 0, 1, 2, 3}}, api.OK},
		{g, derive(1, 9), api.Ghost{Keys: ks(4, 1, 2, 9), Ids: []int{3, 0, 1, 4}, From: []int{-1, 0, 1, 2, 0}}, api.OK},
		{g, derive(2, 9), api.Ghost{Keys: ks(4, 1, 2, 9), Ids: []int{3, 0, 1, 4}, From: []int{-1, 0, 1, 2, 1}}, api.OK},
		{g, derive(3, 9), g, api.ErrNone},
		{g, derive(3, 1), g, api.ErrNone},
		{g, derive(3, 3), g, api.ErrNone},
		{g, derive(1, 2), g, api.ErrThere},
		{g, derive(1, 1), g, api.ErrThere},
		{g, move(4, 9), api.Ghost{Keys: ks(9, 1, 2), Ids: []int{3, 0, 1}, From: from}, api.OK},
		{g, move(1, 9), api.Ghost{Keys: ks(4, 9, 2), Ids: []int{3, 0, 1}, From: from}, api.OK},
		{g, move(2, 9), api.Ghost{Keys: ks(4, 1, 9), Ids: []int{3, 0, 1}, From: from}, api.OK},
		{g, move(2, 1), g, api.ErrThere},
		{g, move(2, 2), g, api.ErrThere},
		{g, move(3, 2), g, api.ErrNone},
		{g, move(3, 3), g, api.ErrNone},
		{g, move(3, 9), g, api.ErrNone},
		{g, die(4), api.Ghost{Keys: ks(1, 2), Ids: []int{0, 1}, From: from}, api.OK},
		{g, die(1), api.Ghost{Keys: ks(4, 2), Ids: []int{3, 1}, From: from}, api.OK},
		{g, die(2), api.Ghost{Keys: ks(4, 1), Ids: []int{3, 0}, From: from}, api.OK},
		{g, die(3), g, api.ErrNone},
		{one, die(1), api.Ghost{From: []int{-1}}, api.OK},
		{api.Ghost{From: from}, root(1), api.Ghost{Keys: ks(1), Ids: []int{4}, From: []int{-1, 0, 1, 2, -1}}, api.OK},
		{api.Ghost{From: from}, die(1), api.Ghost{From: from}, api.ErrNone},
		{api.Ghost{From: []int{0}}, root(1), api.Ghost{From: []int{0}}, api.ErrArg},
		{api.Ghost{Keys: ks(1)}, root(1), api.Ghost{Keys: ks(1)}, api.ErrArg},
		{api.Ghost{Keys: ks(1)}, die(2), api.Ghost{Keys: ks(1)}, api.ErrArg},
		{api.Ghost{Ids: []int{0}}, move(1, 2), api.Ghost{Ids: []int{0}}, api.ErrArg},
	} {
		got, e := Add(roomy(c.g), c.b)
		if e != c.e || !alike(got, c.want) {
			t.Error(i, c.g, c.b, got, e)
		}
		adds(t, c.g, c.b)
	}
}

// TestKinds: P14.2, kinds that are none, whatever else there is.
func TestKinds(t *testing.T) {
	for _, kind := range append([]int{-4, -3, -2, -1, 0, 1, 2, 3, 4, 5, 6, 7, 8, 257, 260, 1<<32 + 4}, ends...) {
		for _, g := range []api.Ghost{{}, few(), row(mostBorn), {From: []int{0}}} {
			for _, b := range []api.Birth{root(9), derive(1, 9), derive(9, 1), root(1), {Key: key(0, 8)}} {
				b.Kind = kind
				if _, e := adds(t, g, b); (kind < 1 || kind > 4) && e != api.ErrArg {
					t.Fatal(kind, e)
				}
			}
		}
	}
}

// TestFromLooked: P14.2, a From that may not be is refused of two kinds, and not looked at of the others.
func TestFromLooked(t *testing.T) {
	g := few()
	for _, bad := range badKeys() {
		for kind := 1; kind <= 4; kind++ {
			for _, there := range []api.Key{k(4), k(1), k(2), k(3), k(9)} {
				_, e := adds(t, g, api.Birth{Kind: kind, Key: there, From: bad})
				held := slices.Contains(g.Keys, there)
				want := first(kind == api.BiDerive || kind == api.BiMove, api.ErrArg, kind == api.BiRoot && held, api.ErrThere, kind == api.BiDie && !held, api.ErrNone)
				if e != want {
					t.Fatal(kind, there, bad, e)
				}
				if _, e := adds(t, g, api.Birth{Kind: kind, Key: bad, From: there}); e != api.ErrArg {
					t.Fatal(kind, bad, there, e)
				}
			}
			if _, e := adds(t, g, api.Birth{Kind: kind, Key: bad, From: bad}); e != api.ErrArg {
				t.Fatal(kind, bad, e)
			}
			adds(t, api.Ghost{Keys: []api.Key{bad}, Ids: []int{0}, From: []int{-1}}, api.Birth{Kind: kind, Key: bad, From: bad})
		}
	}
	for _, a := range goodKeys {
		for _, b := range goodKeys {
			h := api.Ghost{Keys: []api.Key{b}, Ids: []int{1}, From: []int{-1, 0}}
			for kind := 1; kind <= 4; kind++ {
				adds(t, h, api.Birth{Kind: kind, Key: a, From: b})
				adds(t, h, api.Birth{Kind: kind, Key: b, From: a})
			}
		}
	}
}

// TestFull: P14.2, at MaxBorn, at one less and at one more: which error comes first, and what still goes.
func TestFull(t *testing.T) {
	fresh, other := key(500, 3), key(500, 4)
	for _, made := range []func(int) api.Ghost{row, roots} {
		for _, n := range []int{4094, 4095, 4096, 4097} {
			g := made(n)
			a, z := g.Keys[0], g.Keys[len(g.Keys)-1]
			for _, c := range []struct {
				b api.Birth
				e api.Errno // of a full one
			}{
				{api.Birth{Kind: api.BiRoot, Key: fresh}, api.ErrMany},
				{api.Birth{Kind: api.BiRoot, Key: fresh, From: a}, api.ErrMany},
				{api.Birth{Kind: api.BiRoot, Key: z}, api.ErrThere},
				{api.Birth{Kind: api.BiRoot, Key: key(0, 8)}, api.ErrArg},
				{api.Birth{Kind: api.BiDerive, Key: fresh, From: a}, api.ErrMany},
				{api.Birth{Kind: api.BiDerive, Key: fresh, From: z}, api.ErrMany},
				{api.Birth{Kind: api.BiDerive, Key: z, From: a}, api.ErrThere},
				{api.Birth{Kind: api.BiDerive, Key: a, From: a}, api.ErrThere},
				{api.Birth{Kind: api.BiDerive, Key: fresh, From: other}, api.ErrNone},
				{api.Birth{Kind: api.BiDerive, Key: a, From: other}, api.ErrNone},
				{api.Birth{Kind: api.BiDerive, Key: fresh, From: key(1024, 0)}, api.ErrArg},
				{api.Birth{Kind: api.BiMove, Key: fresh, From: a}, api.OK},
				{api.Birth{Kind: api.BiMove, Key: fresh, From: z}, api.OK},
				{api.Birth{Kind: api.BiMove, Key: a, From: z}, api.ErrThere},
				{api.Birth{Kind: api.BiDie, Key: a}, api.OK},
				{api.Birth{Kind: api.BiDie, Key: z}, api.OK},
				{api.Birth{Kind: api.BiDie, Key: fresh}, api.ErrNone},
			} {
				_, e := adds(t, g, c.b)
				if want := first(n > 4096, api.ErrArg, n < 4096 && c.e == api.ErrMany, api.OK, true, c.e); e != want {
					t.Fatal(n, c.b, e)
				}
			}
		}
	}
	// Those who have died count as well: nobody is there, and nobody comes any more.
	for n, want := range map[int]api.Errno{4095: api.OK, 4096: api.ErrMany, 4097: api.ErrArg} {
		if _, e := adds(t, gone(n), root(1)); e != want {
			t.Error(n, e)
		}
		if _, e := adds(t, gone(n), derive(1, 2)); e != first(n > 4096, api.ErrArg, true, api.ErrNone) {
			t.Error(n, e)
		}
	}
}

// lists are all of n numbers from low to high.
func lists(n, low, high int) [][]int {
	all := [][]int{nil}
	for range n {
		var longer [][]int
		for _, l := range all {
			for v := low; v <= high; v++ {
				longer = append(longer, append(slices.Clone(l), v))
			}
		}
		all = longer
	}
	return all
}

// TestAllGhosts: P14.1, P14.2, P14.4, of all ghosts with few keys, ids and few who ever were, those that may not be too.
func TestAllGhosts(t *testing.T) {
	keys := []api.Key{k(0), k(1), key(1, 8)}
	all := births(append(slices.Clone(keys), k(2)))
	ids := []int{-2, -1, 0, 1, 2, 3}
	count := 0
	for shape := range 27 {
		held, named, born := shape%3, shape/3%3, shape/9
		for _, l := range lists(held, 0, 2) {
			for _, m := range lists(named, -1, 2) {
				for _, f := range lists(born, -2, 2) {
					g := api.Ghost{Ids: m, From: f}
					for _, i := range l {
						g.Keys = append(g.Keys, keys[i])
					}
					asks(t, g, keys, ids)
					for _, b := range all {
						if got, e := adds(t, g, b); e == api.OK {
							count++
							if Check(got) != api.OK {
								t.Fatal("what may be stays so", g, b, got)
							}
						}
					}
				}
			}
		}
	}
	if count == 0 {
		t.Fatal("none was changed")
	}
}

// TestAllFroms: P14.1, P14.4, of all Froms of up to five elements, those that go round or upwards too.
func TestAllFroms(t *testing.T) {
	for n := range 6 {
		for _, f := range lists(n, -2, n) {
			g := api.Ghost{Keys: ks(0, 1, 2, 3, 4)[:n], From: f}
			for i := range n {
				g.Ids = append(g.Ids, n-1-i)
			}
			asks(t, g, ks(0, 1, n), []int{-2, -1, 0, n - 1, n, n + 1})
		}
	}
}

// TestRun: P14.3, written out.
func TestRun(t *testing.T) {
	wrong := api.Birth{Kind: 5, Key: k(1)}
	for i, c := range []struct {
		l    []api.Birth
		want api.Ghost
		n    int
	}{
		{nil, api.Ghost{}, 0},
		{[]api.Birth{}, api.Ghost{}, 0},
		{[]api.Birth{{}}, api.Ghost{}, 1},
		{[]api.Birth{wrong, die(1), move(1, 2), derive(1, 2)}, api.Ghost{}, 4},
		{[]api.Birth{root(1)}, api.Ghost{Keys: ks(1), Ids: []int{0}, From: []int{-1}}, 0},
		{[]api.Birth{root(1), root(1)}, api.Ghost{Keys: ks(1), Ids: []int{0}, From: []int{-1}}, 1},
		{[]api.Birth{wrong, root(1), wrong, derive(1, 2), wrong}, api.Ghost{Keys: ks(1, 2), Ids: []int{0, 1}, From: []int{-1, 0}}, 3},
		{[]api.Birth{root(1), wrong, derive(1, 2), derive(1, 2), die(1), die(1)}, api.Ghost{Keys: ks(2), Ids: []int{1}, From: []int{-1, 0}}, 3},
		{[]api.Birth{derive(1, 2), root(1), derive(1, 2)}, api.Ghost{Keys: ks(1, 2), Ids: []int{0, 1}, From: []int{-1, 0}}, 1},
		{[]api.Birth{root(1), die(1), root(1), derive(1, 2), die(1), derive(1, 3)}, api.Ghost{Keys: ks(2), Ids: []int{2}, From: []int{-1, -1, 1}}, 1},
		{[]api.Birth{root(1), derive(1, 2), derive(2, 3), move(2, 4), root(2), derive(2, 5), die(4)}, api.Ghost{Keys: ks(1, 3, 2, 5), Ids: []int{0, 2, 3, 4}, From: []int{-1, 0, 1, -1, 3}}, 0},
	} {
		got, n := Run(c.l...)
		if n != c.n || !alike(got, c.want) {
			t.Error(i, c.l, got, n)
		}
	}
}

// runs says whether Run is Add of each, one behind the other, and leaves what was handed in as it was.
func runs(t *testing.T, l []api.Birth) (api.Ghost, int) {
	t.Helper()
	filling := api.Birth{Kind: 3, Key: fillKey, From: fillKey}
	r := behind(l, filling)
	got, n := Run(r...)
	var want api.Ghost
	passed := 0
	for _, b := range l {
		next, e := Add(want, b)
		if e != api.OK {
			passed++
		}
		want = next
	}
	if n != passed || !alike(got, want) {
		t.Fatal(l, got, n, "not", want, passed)
	}
	again, _ := Run(r...)
	spoil(again)
	if !alike(got, want) || !slices.Equal(r, l) || !slices.Equal(r[:len(l)+spare], behind(l, filling)[:len(l)+spare]) {
		t.Fatal(l, "is not apart", got, r)
	}
	fill(r, filling)
	if !alike(got, want) {
		t.Fatal(l, "is kept", got)
	}
	return got, n
}

// TestRunAll: P14.3, all lists of up to three births with two keys, one that may not be, and a kind that is none.
func TestRunAll(t *testing.T) {
	all := append(births([]api.Key{k(1), k(2)}), api.Birth{Kind: 5, Key: k(1)}, api.Birth{Kind: api.BiRoot, Key: key(0, 8)})
	runs(t, nil)
	for _, a := range all {
		runs(t, []api.Birth{a})
		for _, b := range all {
			runs(t, []api.Birth{a, b})
			for _, c := range all {
				runs(t, []api.Birth{a, b, c})
				runs(t, []api.Birth{root(1), derive(1, 2), a, b, c})
			}
		}
	}
}

// TestRunMany: P14.3, up to MaxBorn and past it: those that come behind are passed over, but for moves and deaths.
func TestRunMany(t *testing.T) {
	var l []api.Birth
	for i := range 5000 {
		l = append(l, api.Birth{Kind: api.BiRoot, Key: key(i/9, i%9-1)})
	}
	g, n := Run(l...)
	if n != 5000-4096 || len(g.From) != 4096 || len(g.Keys) != 4096 || g.Keys[4095] != l[4095].Key || Check(g) != api.OK {
		t.Fatal(n, len(g.From))
	}
	l = append(l, api.Birth{Kind: api.BiMove, Key: l[4096].Key, From: l[0].Key}, api.Birth{Kind: api.BiDie, Key: l[4095].Key}, api.Birth{Kind: api.BiRoot, Key: l[4095].Key})
	g, n = Run(l...)
	if n != 5000-4096+1 || len(g.From) != 4096 || len(g.Keys) != 4095 || g.Keys[0] != l[4096].Key || g.Ids[0] != 0 || Check(g) != api.OK {
		t.Fatal(n, len(g.From), len(g.Keys))
	}
	// Each that is born dies at once: it is MaxBorn of them all the same.
	l = nil
	for range 4100 {
		l = append(l, root(1), die(1), api.Birth{})
	}
	g, n = Run(l...)
	if n != 4100+8 || len(g.Keys) != 0 || len(g.Ids) != 0 || len(g.From) != 4096 {
		t.Fatal(n, len(g.Keys), len(g.From))
	}
}

// TestWho: P14.4, written out, in ghosts that may not be too.
func TestWho(t *testing.T) {
	twice := api.Ghost{Keys: ks(1, 2, 1, 2), Ids: []int{5, 6, 7}}
	short := api.Ghost{Keys: []api.Key{k(1), k(2), k(3), key(-9, 99)}, Ids: []int{math.MinInt, 0}, From: []int{-1}}
	for _, c := range []struct {
		g  api.Ghost
		k  api.Key
		id int
		ok bool
	}{
		{few(), k(4), 3, true}, {few(), k(1), 0, true}, {few(), k(2), 1, true}, {few(), k(3), 0, false}, {few(), k(0), 0, false}, {few(), key(4, -1), 0, false}, {few(), key(4, 1), 0, false},
		{api.Ghost{}, api.Key{}, 0, false}, {api.Ghost{Ids: []int{3}}, api.Key{}, 0, false},
		{twice, k(1), 5, true}, {twice, k(2), 6, true}, {twice, k(3), 0, false},
		{short, k(1), math.MinInt, true}, {short, k(2), 0, true}, {short, k(3), 0, false}, {short, key(-9, 99), 0, false},
		{api.Ghost{Keys: []api.Key{key(-9, 99)}, Ids: []int{8}}, key(-9, 99), 8, true},
		{api.Ghost{Keys: ks(1)}, k(1), 0, false},
	} {
		if id, ok := Who(c.g, c.k); id != c.id || ok != c.ok {
			t.Error(c.g, c.k, id, ok)
		}
	}
}

// TestAbove: P14.4, written out, in a From that goes round or upwards too.
func TestAbove(t *testing.T) {
	from := []int{-1, 0, 1, 0, 3, -1, 5, 4}
	for _, c := range []struct {
		from []int
		id   int
		want []int
	}{
		{from, 0, nil}, {from, 1, []int{0}}, {from, 2, []int{1, 0}}, {from, 3, []int{0}}, {from, 4, []int{3, 0}}, {from, 5, nil}, {from, 6, []int{5}}, {from, 7, []int{4, 3, 0}},
		{from, -1, nil}, {from, -2, nil}, {from, 8, nil}, {from, 9, nil}, {from, math.MinInt, nil}, {from, math.MaxInt, nil},
		{nil, 0, nil}, {nil, -1, nil}, {nil, 1, nil},
		{[]int{0}, 0, nil}, {[]int{1, 0}, 0, nil}, {[]int{1, 0}, 1, []int{0}},
		{[]int{2, 0, 1}, 2, []int{1, 0}}, {[]int{2, 0, 1}, 1, []int{0}}, {[]int{2, 0, 1}, 0, nil},
		{[]int{-1, 2, 1}, 2, []int{1}}, {[]int{-1, 1, 1}, 2, []int{1}},
		{[]int{-1, 9, 1}, 2, []int{1}}, {[]int{-1, math.MaxInt}, 1, nil},
		{[]int{-2, 0}, 0, nil}, {[]int{-2, 0}, 1, []int{0}}, {[]int{math.MinInt, 0}, 1, []int{0}},
	} {
		if got := Above(api.Ghost{From: c.from}, c.id); !slices.Equal(got, c.want) {
			t.Error(c.from, c.id, got)
		}
	}
	g := row(mostBorn)
	one, two := Above(g, mostBorn-1), Above(g, mostBorn-1)
	if len(one) != mostBorn-1 || one[0] != mostBorn-2 || one[mostBorn-2] != 0 {
		t.Error(len(one))
	}
	fill(one, 5)
	if two[0] != mostBorn-2 || !alike(g, row(mostBorn)) {
		t.Error("answers are apart")
	}
}

// TestDescends: P14.4, written out.
func TestDescends(t *testing.T) {
	g := few()
	yes := [][2]int{{4, 1}, {4, 2}, {2, 1}}
	for a := range 6 {
		for b := range 6 {
			if Descends(g, k(a), k(b)) != slices.Contains(yes, [2]int{a, b}) {
				t.Error(a, b)
			}
		}
	}
	if Descends(api.Ghost{}, api.Key{}, api.Key{}) || Descends(api.Ghost{From: []int{-1, 0}}, k(1), k(0)) {
		t.Error("nobody is there")
	}
	short := api.Ghost{Keys: ks(2, 1), Ids: []int{1}, From: []int{-1, 0}}
	if Descends(short, k(2), k(1)) || Descends(short, k(1), k(2)) {
		t.Error("one of them has no Id: it is not there")
	}
	// A key that is not there is not the first one who ever was, though Who tells 0 of it.
	later := api.Ghost{Keys: ks(2), Ids: []int{1}, From: []int{-1, 0}}
	if Descends(later, k(2), k(1)) || Descends(later, k(2), k(0)) {
		t.Error("who has died is nowhere")
	}
	round := api.Ghost{Keys: ks(0, 1, 2), Ids: []int{0, 1, 2}, From: []int{2, 0, 1}}
	if !Descends(round, k(2), k(0)) || Descends(round, k(0), k(2)) || Descends(round, k(1), k(1)) {
		t.Error("round")
	}
	twice := api.Ghost{Keys: ks(1, 1, 2, 3), Ids: []int{0, 1, 0, 1}, From: []int{-1, 0}}
	if Descends(twice, k(1), k(2)) || Descends(twice, k(2), k(1)) || !Descends(twice, k(3), k(1)) || !Descends(twice, k(3), k(2)) {
		t.Error("the first one of two counts")
	}
}

// TestWrong: rule 1, keys and numbers at the ends of int, in ghosts and asked for.
func TestWrong(t *testing.T) {
	for _, a := range append(badKeys(), goodKeys...) {
		for _, g := range []api.Ghost{{}, {Keys: []api.Key{a}}, {Keys: []api.Key{a, a}, Ids: []int{0, 1}, From: []int{-1, 0}}, {Keys: []api.Key{k(501), a}, Ids: []int{1, 0}, From: []int{-1, 0}}} {
			asks(t, g, []api.Key{a, k(501), {}}, []int{a.Obj, a.Slot})
			for _, b := range births([]api.Key{a, k(501), k(9)}) {
				adds(t, g, b)
			}
			runs(t, []api.Birth{{Kind: 1, Key: a, From: a}, {Kind: 2, Key: k(501), From: a}, {Kind: 3, Key: k(9), From: a}, {Kind: 4, Key: a, From: a}, {Kind: a.Obj, Key: k(8)}})
		}
	}
	for _, v := range ends {
		for _, w := range append([]int{-1, 0, 1}, ends...) {
			for _, g := range []api.Ghost{{Keys: ks(1, 2), Ids: []int{v, w}, From: []int{-1, 0}}, {Keys: ks(1, 2), Ids: []int{0, 1}, From: []int{v, w}}, {Keys: ks(1, 2), Ids: []int{v, w}, From: []int{w, v}}, {Ids: []int{v, w}}} {
				asks(t, g, ks(1, 2, 3), []int{v, w, 0, 1})
				for _, b := range births(ks(1, 3)) {
					adds(t, g, b)
				}
			}
		}
	}
}

// follows does to a tree what befell.
func follows(l []api.Branch, b api.Birth) ([]api.Branch, api.Errno) {
	switch b.Kind {
	case api.BiRoot:
		return tree.Root(l, b.Key)
	case api.BiDerive:
		return tree.Insert(l, b.From, b.Key)
	case api.BiMove:
		return tree.Move(l, b.From, b.Key)
	}
	return tree.Remove(l, b.Key)
}

// asTree says whether who descends from whom is the same in a ghost and in a tree.
func asTree(t *testing.T, g api.Ghost, l []api.Branch, keys []api.Key) {
	t.Helper()
	for _, a := range keys {
		for _, b := range keys {
			if Descends(g, a, b) != tree.Descends(l, a, b) {
				t.Fatal(g, l, a, b)
			}
		}
	}
}

// TestAsTree: P14.5, all that may befall a tree of three slots in seven steps, and one of four in five.
func TestAsTree(t *testing.T) {
	count := 0
	var goOn func(g api.Ghost, l []api.Branch, keys []api.Key, left int)
	goOn = func(g api.Ghost, l []api.Branch, keys []api.Key, left int) {
		count++
		asTree(t, g, l, keys)
		if left == 0 {
			return
		}
		for _, b := range births(keys) {
			if (b.Kind == api.BiRoot || b.Kind == api.BiDie) && b.From != keys[0] {
				continue
			}
			next, e := follows(l, b)
			if e != api.OK {
				continue
			}
			h, e := Add(g, b)
			if e != api.OK {
				t.Fatal("what a tree does not refuse, a ghost does not either", g, b, e)
			}
			goOn(h, next, keys, left-1)
		}
	}
	goOn(api.Ghost{}, nil, ks(1, 2, 3), 7)
	goOn(api.Ghost{}, nil, []api.Key{k(1), k(2), key(1, -1), key(1, 7)}, 5)
	if count < 10000 {
		t.Fatal("that was not much", count)
	}
}

// picks calls do with births that a rule's sums choose, of n keys.
func picks(steps, n int, do func(b api.Birth)) {
	sum := 1
	for range steps {
		sum = (sum*1103515245 + 12345) % (1 << 31)
		pick := sum >> 8
		a, b := pick%n, pick/n%n
		do(api.Birth{Kind: []int{2, 2, 3, 4, 2, 1, 3}[pick/n/n%7], Key: key(a/9, a%9-1), From: key(b/9, b%9-1)})
	}
}

// TestAsTreeLong: P14.5, a long row of what befell a tree.
func TestAsTreeLong(t *testing.T) {
	var g api.Ghost
	var l []api.Branch
	var befell []api.Birth
	picks(20000, 20, func(b api.Birth) {
		next, e := follows(l, b)
		if e != api.OK || len(g.From) == mostBorn && b.Kind <= api.BiDerive {
			return
		}
		h, e := Add(g, b)
		if e != api.OK {
			t.Fatal(b, e)
		}
		g, l, befell = h, next, append(befell, b)
		keys := slices.Clone(g.Keys)
		slices.SortFunc(keys, func(a, b api.Key) int { return 9*(a.Obj-b.Obj) + a.Slot - b.Slot })
		for i := range keys {
			asTree(t, g, l, []api.Key{keys[i], keys[len(befell)%len(keys)]})
		}
	})
	if len(befell) < 1000 || len(g.From) < 300 {
		t.Fatal("that was no long row", len(befell), len(g.From))
	}
	if h, n := Run(befell...); n != 0 || !alike(g, h) {
		t.Fatal(n)
	}
}

// stays says whether, of all keys that were there ahead of b and are there behind it, who descends from whom is as it was, a move taken along.
func stays(t *testing.T, g, h api.Ghost, b api.Birth) {
	t.Helper()
	now := func(k api.Key) api.Key {
		if b.Kind == api.BiMove && k == b.From {
			return b.Key
		}
		return k
	}
	for _, x := range g.Keys {
		for _, y := range g.Keys {
			if b.Kind == api.BiDie && (x == b.Key || y == b.Key) {
				if Descends(h, x, y) {
					t.Fatal("one of them is dead", h, x, y)
				}
				continue
			}
			if Descends(g, x, y) != Descends(h, now(x), now(y)) {
				t.Fatal(g, b, h, x, y)
			}
		}
	}
	switch b.Kind {
	case api.BiRoot:
		if len(Above(h, len(h.From)-1)) != 0 {
			t.Fatal("a root is from nobody", h, b)
		}
	case api.BiDerive:
		if !Descends(h, b.Key, b.From) || Descends(h, b.From, b.Key) {
			t.Fatal("derived", h, b)
		}
	}
}

// TestForGood: P14.6, all that may befall three slots in six steps: a death of one that has others below it, too.
func TestForGood(t *testing.T) {
	keys := ks(1, 2, 3)
	var goOn func(g api.Ghost, left int)
	goOn = func(g api.Ghost, left int) {
		for _, b := range births(keys) {
			if (b.Kind == api.BiRoot || b.Kind == api.BiDie) && b.From != keys[0] {
				continue
			}
			h, e := Add(g, b)
			if e != api.OK {
				if !alike(g, h) {
					t.Fatal("with an error all stays", g, b, h)
				}
				continue
			}
			stays(t, g, h, b)
			if left > 1 {
				goOn(h, left-1)
			}
		}
	}
	goOn(api.Ghost{}, 6)
}

// TestForGoodLong: P14.6, a long row up to MaxBorn: who was once above one is so for good, whatever dies and moves in between.
func TestForGoodLong(t *testing.T) {
	var g api.Ghost
	var above [][]int // of each who ever was, as it was when it was born
	full := false
	picks(50000, 60, func(b api.Birth) {
		h, e := Add(g, b)
		full = full || e == api.ErrMany
		if e != api.OK {
			return
		}
		if len(h.From)%50 == 0 {
			stays(t, g, h, b)
		}
		g = h
		if len(g.From) > len(above) {
			above = append(above, Above(g, len(g.From)-1))
		}
	})
	if !full || len(above) != mostBorn {
		t.Fatal("that was no long row", len(above))
	}
	for id, l := range above {
		if !slices.Equal(Above(g, id), l) {
			t.Fatal(id, l)
		}
	}
	for i, a := range g.Keys {
		for j, b := range g.Keys {
			if Descends(g, a, b) != slices.Contains(above[g.Ids[i]], g.Ids[j]) {
				t.Fatal(a, b)
			}
		}
	}
}

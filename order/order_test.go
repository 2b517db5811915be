package order

import (
	"garrison/api"
	"math"
	"slices"
	"testing"
)

// The cell behind the last one: that of the last slot of MaxObj is ahead of it.
const cellCount = 9 * (api.MaxObj + 1)

// Numbers that are no object's, and that are no slot's.
var (
	noObjs  = []int{-1, api.MaxObj + 1, -9, -1024, 1 << 32, 1<<32 | 1, 1 << 61, math.MaxInt, math.MinInt}
	noSlots = []int{-2, 8, 9, -9, 1 << 32, 1<<32 | 1, math.MaxInt, math.MinInt}
)

// Keys that Check refuses, each for another reason.
var noKeys = []api.Key{{Obj: -1}, {Obj: api.MaxObj + 1}, {Slot: -2}, {Slot: 8}, {Obj: -1, Slot: 8}, {Obj: 1, Slot: -10}, {Obj: math.MinInt, Slot: math.MinInt}, {Obj: math.MaxInt, Slot: math.MaxInt}}

// key is a short form.
func key(obj, slot int) api.Key {
	return api.Key{Obj: obj, Slot: slot}
}

// allKeys are all that may be, as the document tells them, in their order.
func allKeys() []api.Key {
	var all []api.Key
	for obj := 0; obj <= 1023; obj++ {
		for slot := -1; slot <= 7; slot++ {
			all = append(all, key(obj, slot))
		}
	}
	return all
}

// subsets are the rising lists of some of the keys of l, which rises.
func subsets(l []api.Key) [][]api.Key {
	all := make([][]api.Key, 0, 1<<len(l))
	for set := 0; set < 1<<len(l); set++ {
		var some []api.Key
		for i, k := range l {
			if set>>i&1 == 1 {
				some = append(some, k)
			}
		}
		all = append(all, some)
	}
	return all
}

// lists are all lists of at most most keys of l, in any order, each as often as may be.
func lists(l []api.Key, most int) [][]api.Key {
	all := [][]api.Key{nil}
	for from := 0; most > 0; most-- {
		end := len(all)
		for ; from < end; from++ {
			for _, k := range l {
				all = append(all, append(slices.Clone(all[from]), k))
			}
		}
	}
	return all
}

var filling = key(9, 9)

// roomy has the keys of l, and room behind them that is filled.
func roomy(l ...api.Key) []api.Key {
	long := make([]api.Key, len(l)+40)
	for i := range long {
		long[i] = filling
	}
	copy(long, l)
	return long[:len(l)]
}

// untouched says whether a list that roomy made is still l, and its room too.
func untouched(r []api.Key, l ...api.Key) bool {
	return slices.Equal(r, l) && slices.Equal(r[:cap(r)], roomy(l...)[:cap(r)])
}

// spoil writes to all of a list that was answered, and to its room.
func spoil(l []api.Key) {
	l = l[:cap(l)]
	for i := range l {
		l[i] = key(-7, -7)
	}
}

// sorted is what the document says of Sort: of all keys, in their order, those that l has.
func sorted(among, l []api.Key) []api.Key {
	var some []api.Key
	for _, k := range among {
		if slices.Contains(l, k) {
			some = append(some, k)
		}
	}
	return some
}

// TestCheck: P6.1, all keys that may be, and those about them.
func TestCheck(t *testing.T) {
	for obj := -3; obj <= 1026; obj++ {
		for slot := -4; slot <= 11; slot++ {
			want := api.ErrArg
			if 0 <= obj && obj <= 1023 && -1 <= slot && slot <= 7 {
				want = api.OK
			}
			if got := Check(key(obj, slot)); got != want {
				t.Fatal(obj, slot, got)
			}
		}
	}
	for _, obj := range noObjs {
		for slot := -1; slot <= 7; slot++ {
			if Check(key(obj, slot)) != api.ErrArg {
				t.Fatal(obj, slot)
			}
		}
	}
	for _, slot := range noSlots {
		for _, obj := range []int{0, 1, api.MaxObj} {
			if Check(key(obj, slot)) != api.ErrArg {
				t.Fatal(obj, slot)
			}
		}
	}
}

// TestLess: P6.1, by Obj ahead of Slot, of keys that may be and of any others.
func TestLess(t *testing.T) {
	cases := []struct {
		a, b       api.Key
		less, more bool
	}{
		{key(0, 0), key(0, 0), false, false},
		{key(0, -1), key(0, -1), false, false},
		{key(1023, 7), key(1023, 7), false, false},
		{key(5, -1), key(5, 0), true, false},
		{key(5, 6), key(5, 7), true, false},
		{key(5, -1), key(5, 7), true, false},
		{key(5, 7), key(6, -1), true, false},
		{key(5, 3), key(6, 3), true, false},
		{key(0, 7), key(1023, -1), true, false},
		{key(6, 2), key(5, 7), false, true},
		{key(9, 10), key(10, 9), true, false},
		{key(math.MinInt, 0), key(math.MaxInt, 0), true, false},
		{key(math.MinInt, math.MaxInt), key(-1, math.MinInt), true, false},
		{key(0, math.MinInt), key(0, math.MaxInt), true, false},
		{key(math.MaxInt, math.MaxInt), key(math.MaxInt, math.MaxInt), false, false},
	}
	for _, c := range cases {
		if Less(c.a, c.b) != c.less || Less(c.b, c.a) != c.more {
			t.Error(c.a, c.b, Less(c.a, c.b), Less(c.b, c.a))
		}
	}
}

// TestCell: P6.2, of each key, which are counted off.
func TestCell(t *testing.T) {
	for want, k := range allKeys() {
		if got := Cell(k); got != want || got != 9*k.Obj+k.Slot+1 {
			t.Fatal(k, got)
		}
	}
	if Cell(key(0, -1)) != 0 || Cell(key(0, 7)) != 8 || Cell(key(1, -1)) != 9 || Cell(key(1023, 7)) != cellCount-1 {
		t.Error("first, last")
	}
}

// TestCellRefused: P6.2, keys that Check refuses, also those whose number would be a cell's.
func TestCellRefused(t *testing.T) {
	for _, k := range noKeys {
		if Cell(k) != -1 {
			t.Error(k, Cell(k))
		}
	}
	for _, obj := range noObjs {
		for slot := -3; slot <= 9; slot++ {
			if Cell(key(obj, slot)) != -1 {
				t.Error(obj, slot)
			}
		}
	}
	for _, slot := range noSlots {
		for _, obj := range []int{0, 1, 2, 1022, api.MaxObj} {
			if Cell(key(obj, slot)) != -1 {
				t.Error(obj, slot)
			}
		}
	}
}

// TestKey: P6.2, of each cell, and there and back.
func TestKey(t *testing.T) {
	all := allKeys()
	if len(all) != cellCount {
		t.Fatal(len(all))
	}
	for cell, want := range all {
		k, e := Key(cell)
		if k != want || e != api.OK || Cell(k) != cell {
			t.Fatal(cell, k, e)
		}
	}
	if k, e := Key(0); k != key(0, -1) || e != api.OK {
		t.Error(k, e)
	}
	if k, e := Key(cellCount - 1); k != key(1023, 7) || e != api.OK {
		t.Error(k, e)
	}
}

// TestKeyRefused: P6.2, cells that are no key's.
func TestKeyRefused(t *testing.T) {
	cells := []int{cellCount, cellCount + 8, cellCount + 9, 1 << 32, 1<<32 | 1, math.MaxInt, math.MaxInt - 1, math.MinInt, math.MinInt + 1}
	for cell := -1; cell >= -40; cell-- {
		cells = append(cells, cell)
	}
	for _, cell := range cells {
		if k, e := Key(cell); k != (api.Key{}) || e != api.ErrArg {
			t.Error(cell, k, e)
		}
	}
}

// few are keys that differ in Obj alone, in Slot alone, and in both.
var few = []api.Key{{Obj: 0, Slot: -1}, {Obj: 0, Slot: 7}, {Obj: 1, Slot: -1}, {Obj: 1, Slot: 0}, {Obj: 1023, Slot: 7}}

// TestRising: P6.3, each list of few keys against the order that they were written in.
func TestRising(t *testing.T) {
	for _, l := range lists(few, 4) {
		want := true
		for i := range l {
			for j := range i {
				want = want && slices.Index(few, l[j]) < slices.Index(few, l[i])
			}
		}
		if Rising(l) != want {
			t.Fatal(l, Rising(l))
		}
	}
	if !Rising(nil) || !Rising([]api.Key{}) || !Rising([]api.Key{key(3, 3)}) || Rising([]api.Key{key(3, 3), key(3, 3)}) {
		t.Error("none, one, twice the same")
	}
	if !Rising(allKeys()) {
		t.Error("all")
	}
}

// TestRisingOneFault: P6.3, a long list in which two keys, or one key twice, break it, wherever they stand.
func TestRisingOneFault(t *testing.T) {
	all := allKeys()[:60]
	for at := 1; at < len(all); at++ {
		l := slices.Clone(all)
		l[at-1], l[at] = l[at], l[at-1]
		if Rising(l) {
			t.Error(at)
		}
		if Rising(slices.Insert(slices.Clone(all), at, all[at])) {
			t.Error(at)
		}
	}
}

// TestRisingAny: P6.3 asks for no keys that may be.
func TestRisingAny(t *testing.T) {
	l := []api.Key{key(math.MinInt, 0), key(-1, 9), key(0, math.MinInt), key(0, math.MaxInt), key(math.MaxInt, -2)}
	if !Rising(l) {
		t.Error(l)
	}
	slices.Reverse(l)
	if Rising(l) {
		t.Error(l)
	}
}

// TestSort: P6.3, P6.6, each list of few keys, whatever its order and however often it has one.
func TestSort(t *testing.T) {
	for _, l := range lists(few, 5) {
		got, e := Sort(l...)
		if e != api.OK || !slices.Equal(got, sorted(few, l)) {
			t.Fatal(l, got, e)
		}
	}
	if l, e := Sort(key(2, 0), key(1, -1), key(2, 0)); e != api.OK || !slices.Equal(l, []api.Key{key(1, -1), key(2, 0)}) {
		t.Error(l, e)
	}
}

// TestSortNone: P6.3, no key, by either way to hand over none.
func TestSortNone(t *testing.T) {
	for _, l := range [][]api.Key{nil, {}, roomy()} {
		if got, e := Sort(l...); len(got) != 0 || e != api.OK {
			t.Error(got, e)
		}
	}
	if got, e := Sort(); len(got) != 0 || e != api.OK {
		t.Error(got, e)
	}
}

// TestSortMany: P6.3, P6.6, long lists: that falls, that rises, in which one key stands many times, that is mixed.
func TestSortMany(t *testing.T) {
	all := allKeys()
	falling := slices.Clone(all)
	slices.Reverse(falling)
	var mixed []api.Key
	for i := range 3 * len(all) {
		mixed = append(mixed, all[i*5003%len(all)])
	}
	for _, l := range [][]api.Key{all, falling, mixed, slices.Concat(falling, mixed, all)} {
		if got, e := Sort(l...); e != api.OK || !slices.Equal(got, all) {
			t.Fatal(len(got), e)
		}
	}
	for _, k := range []api.Key{key(0, -1), key(0, 0), key(7, 3), key(1023, 7)} {
		for _, times := range []int{1, 2, 3, 100, 5000} {
			if got, e := Sort(slices.Repeat([]api.Key{k}, times)...); e != api.OK || !slices.Equal(got, []api.Key{k}) {
				t.Error(k, times, got, e)
			}
		}
	}
}

// TestSortRefused: P6.3, one key that Check refuses, wherever it stands: none at all is answered.
func TestSortRefused(t *testing.T) {
	for _, bad := range noKeys {
		if got, e := Sort(bad); got != nil || e != api.ErrArg {
			t.Error(bad, got, e)
		}
		for at := 0; at <= len(few); at++ {
			l := slices.Insert(slices.Clone(few), at, bad)
			if got, e := Sort(l...); got != nil || e != api.ErrArg {
				t.Error(bad, at, got, e)
			}
		}
		if got, e := Sort(bad, bad, bad); got != nil || e != api.ErrArg {
			t.Error(bad, got, e)
		}
	}
}

// TestMerge: P6.4, all rising lists of few keys with all others: empty ones, that share all, some, none.
func TestMerge(t *testing.T) {
	for _, a := range subsets(few) {
		for _, b := range subsets(few) {
			got := Merge(a, b)
			if !slices.Equal(got, sorted(few, slices.Concat(a, b))) || !Rising(got) {
				t.Fatal(a, b, got)
			}
		}
	}
	if got := Merge([]api.Key{}, nil); len(got) != 0 {
		t.Error(got)
	}
}

// TestMergeLong: P6.4, one list behind the other, one inside the other, key about key, the same twice.
func TestMergeLong(t *testing.T) {
	all := allKeys()
	var even, odd []api.Key
	for i, k := range all {
		if i%2 == 0 {
			even = append(even, k)
		} else {
			odd = append(odd, k)
		}
	}
	cases := [][2][]api.Key{{even, odd}, {all, nil}, {all, all}, {all, odd}, {all[:100], all[100:]}, {all[:700], all[300:]}, {all, all[5:6]}}
	for i, c := range cases {
		if !slices.Equal(Merge(c[0], c[1]), all) || !slices.Equal(Merge(c[1], c[0]), all) {
			t.Error(i)
		}
	}
}

// TestMergeAny: P6.4 asks for rising lists, not for keys that may be.
func TestMergeAny(t *testing.T) {
	a := []api.Key{key(math.MinInt, 3), key(0, -9), key(5000, 1)}
	b := []api.Key{key(-1, 9), key(0, math.MaxInt), key(5000, 1), key(math.MaxInt, math.MinInt)}
	want := []api.Key{a[0], b[0], a[1], b[1], a[2], b[3]}
	if got := Merge(a, b); !slices.Equal(got, want) {
		t.Error(got)
	}
}

// TestMergeFalling: P6.4, of lists that do not rise it ends.
func TestMergeFalling(t *testing.T) {
	some := lists(append([]api.Key{noKeys[0], noKeys[3]}, few[:3]...), 3)
	for _, a := range some {
		for _, b := range some {
			Merge(a, b)
		}
	}
	falling := allKeys()
	slices.Reverse(falling)
	Merge(falling, allKeys())
	Merge(slices.Repeat(few, 1000), falling)
}

// TestHas: P6.4, each key of a list, wherever it stands, and none but these.
func TestHas(t *testing.T) {
	for _, l := range lists(few, 4) {
		for _, k := range few {
			if Has(l, k) != (slices.Index(l, k) >= 0) {
				t.Fatal(l, k)
			}
		}
	}
	l := []api.Key{key(4, 5), key(2, 3), key(-1, 12)}
	for _, k := range []api.Key{key(4, 3), key(2, 5), key(5, 4), key(3, 2), key(0, 0), key(-1, 0)} {
		if Has(l, k) || Has(nil, k) || Has([]api.Key{}, k) {
			t.Error(k)
		}
	}
	for _, k := range l {
		if !Has(l, k) {
			t.Error(k)
		}
	}
	if Has(nil, api.Key{}) || Has(roomy(l...), filling) {
		t.Error("what is not in the list")
	}
}

// TestOneOrder: P6.5, two unlike keys: one is Less, never both, as their cells are.
func TestOneOrder(t *testing.T) {
	var some []api.Key
	for _, obj := range []int{0, 1, 2, 8, 9, 10, 500, 1022, 1023} {
		for slot := -1; slot <= 7; slot++ {
			some = append(some, key(obj, slot))
		}
	}
	for _, a := range some {
		for _, b := range some {
			if Less(a, b) != (Cell(a) < Cell(b)) {
				t.Fatal(a, b)
			}
			if (a == b) == (Less(a, b) || Less(b, a)) || Less(a, b) && Less(b, a) {
				t.Fatal(a, b)
			}
		}
	}
}

// TestAllOnce: P6.6, all keys that were given, no others, each once, whatever their order.
func TestAllOnce(t *testing.T) {
	l := []api.Key{key(3, 1), key(1, 7), key(3, 1), key(2, -1), key(1, -1), key(2, -1), key(1023, 0)}
	want, e := Sort(l...)
	if e != api.OK || !Rising(want) || len(want) != 5 {
		t.Fatal(want, e)
	}
	for _, k := range allKeys() {
		if Has(want, k) != Has(l, k) {
			t.Fatal(k)
		}
	}
	for range len(l) {
		l = append(l[1:], l[0])
		for i := range l {
			for j := range l {
				m := slices.Clone(l)
				m[i], m[j] = m[j], m[i]
				if got, e := Sort(m...); e != api.OK || !slices.Equal(got, want) {
					t.Fatal(m, got, e)
				}
			}
		}
	}
}

// TestListsHandedIn: what is handed in is as it was, its spare room too.
func TestListsHandedIn(t *testing.T) {
	falling := []api.Key{key(3, 1), key(2, 2), key(3, 1), key(0, -1)}
	r := roomy(falling...)
	Sort(r...)
	Rising(r)
	Has(r, filling)
	if !untouched(r, falling...) {
		t.Error(r)
	}
	bad := append(slices.Clone(falling), noKeys[0])
	r = roomy(bad...)
	Sort(r...)
	if !untouched(r, bad...) {
		t.Error(r)
	}
	for _, a := range append(subsets(few[:3]), falling) {
		for _, b := range append(subsets(few[1:]), falling) {
			ra, rb := roomy(a...), roomy(b...)
			Merge(ra, rb)
			if !untouched(ra, a...) || !untouched(rb, b...) {
				t.Fatal(a, b)
			}
		}
	}
}

// TestListsHandedOut: what is written to an answer, or to an argument behind the call, is not seen elsewhere.
func TestListsHandedOut(t *testing.T) {
	for _, l := range append(subsets(few), []api.Key{few[2], few[1], few[2]}) {
		r := roomy(l...)
		got, _ := Sort(r...)
		again, _ := Sort(r...)
		want := sorted(few, l)
		spoil(got)
		if !untouched(r, l...) || !slices.Equal(again, want) {
			t.Fatal(l)
		}
		spoil(r)
		if !slices.Equal(again, want) {
			t.Fatal(l)
		}
	}
	for _, a := range subsets(few) {
		for _, b := range subsets(few) {
			ra, rb := roomy(a...), roomy(b...)
			got, again := Merge(ra, rb), Merge(ra, rb)
			want := slices.Clone(got)
			spoil(got)
			if !untouched(ra, a...) || !untouched(rb, b...) || !slices.Equal(again, want) {
				t.Fatal(a, b)
			}
			spoil(ra)
			spoil(rb)
			if !slices.Equal(again, want) {
				t.Fatal(a, b)
			}
		}
	}
}

// TestSameListTwice: a list that is both arguments, or a piece of itself, is merged as two are.
func TestSameListTwice(t *testing.T) {
	r := roomy(few...)
	if !slices.Equal(Merge(r, r), few) || !slices.Equal(Merge(r[:3], r[2:]), few) || !slices.Equal(Merge(r[3:], r[:1]), []api.Key{few[0], few[3], few[4]}) {
		t.Error(Merge(r, r))
	}
	if !untouched(r, few...) {
		t.Error(r)
	}
}

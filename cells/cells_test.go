package cells

import (
	"garrison/api"
	"math"
	"slices"
	"testing"
)

// Values that a cell may have: free, holders, and the ends of what a cell can have.
var values = []int64{0, 1, 2, 3, 7, -1, -2, 1 << 32, 1<<32 | 1, math.MaxInt64, math.MinInt64}

// Numbers that are no count, no cell and no holder: below 0.
var below = []int{-1, -2, -64, -1 << 32, math.MinInt, math.MinInt + 1}

func made(t *testing.T, n int) *Cells {
	t.Helper()
	c, e := New(n)
	if c == nil || e != api.OK {
		t.Fatal(n, c, e)
	}
	return c
}

// told is what the document says of a step that may be: what the cell has behind it, and whether it is Ok.
func told(got int64, o api.Op) (int64, bool) {
	if o.Kind == api.OpLoad {
		return got, true
	}
	if o.Kind == api.OpStore {
		return o.Val, true
	}
	if o.Kind == api.OpCas && got == o.Old {
		return o.Val, true
	}
	if o.Kind == api.OpTry && got == 0 {
		return int64(o.Who), true
	}
	if o.Kind == api.OpFree && got == int64(o.Who) {
		return 0, true
	}
	return got, false
}

// steps are one of each Kind with many values, all of which may be done to a cell.
func steps(cell int) []api.Op {
	var l []api.Op
	for kind := api.OpLoad; kind <= api.OpFree; kind++ {
		for _, old := range values {
			for _, val := range values {
				for _, who := range []int{1, 2, 3, 1 << 32, math.MaxInt} {
					l = append(l, api.Op{Kind: kind, Cell: cell, Old: old, Val: val, Who: who})
				}
			}
		}
	}
	return l
}

// wrong are steps that may not be done to n cells (1 to MaxCells).
func wrong(n int) []api.Op {
	var l []api.Op
	for _, kind := range append([]int{0, 6, 7, 8, 1<<32 | 1, 256 + 1, math.MaxInt}, below...) {
		l = append(l, api.Op{Kind: kind, Who: 1}, api.Op{Kind: kind, Cell: n - 1, Val: 5, Who: 2}, api.Op{Kind: kind, Cell: -1})
	}
	for kind := api.OpLoad; kind <= api.OpFree; kind++ {
		for _, cell := range append([]int{n, n + 1, api.MaxCells, 1 << 32, math.MaxInt}, below...) {
			l = append(l, api.Op{Kind: kind, Cell: cell, Val: 5, Who: 1})
		}
	}
	for _, kind := range []int{api.OpTry, api.OpFree} {
		for _, who := range append([]int{0}, below...) {
			l = append(l, api.Op{Kind: kind, Who: who}, api.Op{Kind: kind, Cell: n - 1, Who: who}, api.Op{Kind: kind, Cell: n, Who: who})
		}
	}
	return l
}

// P4.1: as many cells as were asked for, each 0.
func TestNew(t *testing.T) {
	for _, n := range []int{0, 1, 2, 3, 64, api.MaxCells - 1, api.MaxCells} {
		c := made(t, n)
		if c.Len() != n || c.Steps() != 0 || len(c.Trace()) != 0 {
			t.Fatal(n, c.Len(), c.Steps(), c.Trace())
		}
		if !slices.Equal(c.Peek(), make([]int64, n)) {
			t.Fatal(n, c.Peek())
		}
	}
}

func TestNewWrong(t *testing.T) {
	for _, n := range append([]int{api.MaxCells + 1, api.MaxCells + 2, 2 * api.MaxCells, 1 << 32, math.MaxInt}, below...) {
		if c, e := New(n); c != nil || e != api.ErrArg {
			t.Fatal(n, c, e)
		}
	}
}

// P4.1, P4.3: cells share nothing with other cells.
func TestNewApart(t *testing.T) {
	c, d := made(t, 2), made(t, 2)
	c.Do(api.Op{Kind: api.OpStore, Cell: 1, Val: 9})
	if !slices.Equal(d.Peek(), []int64{0, 0}) || d.Steps() != 0 || len(d.Trace()) != 0 {
		t.Fatal(d.Peek(), d.Steps(), d.Trace())
	}
}

// P4.1: steps that may be, of the first and the last cell, of few and many cells.
func TestCheck(t *testing.T) {
	for _, n := range []int{1, 2, 3, api.MaxCells, api.MaxCells + 1, math.MaxInt} {
		for _, cell := range []int{0, n / 2, n - 1} {
			for _, o := range steps(cell) {
				if e := Check(o, n); e != api.OK {
					t.Fatal(o, n, e)
				}
			}
		}
	}
}

// P4.1: Who does not matter to the steps that are no lock's.
func TestCheckWho(t *testing.T) {
	for _, kind := range []int{api.OpLoad, api.OpStore, api.OpCas} {
		for _, who := range append([]int{0, 1, math.MaxInt}, below...) {
			if e := Check(api.Op{Kind: kind, Cell: 1, Who: who}, 2); e != api.OK {
				t.Fatal(kind, who, e)
			}
		}
	}
	for _, kind := range []int{api.OpTry, api.OpFree} {
		if e := Check(api.Op{Kind: kind, Cell: 1, Who: 1}, 2); e != api.OK {
			t.Fatal(kind, e)
		}
	}
}

func TestCheckWrong(t *testing.T) {
	for _, n := range []int{1, 3, api.MaxCells} {
		for _, o := range wrong(n) {
			if e := Check(o, n); e != api.ErrArg {
				t.Fatal(o, n, e)
			}
		}
	}
}

// P4.1: of no cells, or of less than none, there is none to do a step to.
func TestCheckNoCells(t *testing.T) {
	for _, n := range append([]int{0}, below...) {
		for _, cell := range append([]int{0, 1, n, math.MaxInt}, below...) {
			for kind := 0; kind <= 6; kind++ {
				if e := Check(api.Op{Kind: kind, Cell: cell, Who: 1}, n); e != api.ErrArg {
					t.Fatal(kind, cell, n, e)
				}
			}
		}
	}
}

// P4.2: each Kind, on cells with each of the values, at each of the cells.
func TestApply(t *testing.T) {
	for _, got := range values {
		for cell := range 3 {
			l := []int64{11, 12, 13}
			l[cell] = got
			for _, o := range steps(cell) {
				val, ok := told(got, o)
				want := slices.Clone(l)
				want[cell] = val
				vals, r := Apply(l, o)
				if !slices.Equal(vals, want) || r != (api.Rec{Op: o, Got: got, Ok: ok}) {
					t.Fatal(l, o, vals, r, want)
				}
			}
		}
	}
}

// P4.2, told by hand: what a cell has behind each Kind.
func TestApplyByHand(t *testing.T) {
	for _, x := range []struct {
		got int64
		o   api.Op
		val int64
		ok  bool
	}{
		{7, api.Op{Kind: 1, Old: 3, Val: 4, Who: 5}, 7, true},
		{0, api.Op{Kind: 1, Old: 3, Val: 4, Who: 5}, 0, true},
		{7, api.Op{Kind: 2, Old: 3, Val: 4, Who: 5}, 4, true},
		{7, api.Op{Kind: 2, Old: 7, Val: 7, Who: 5}, 7, true},
		{7, api.Op{Kind: 2}, 0, true},
		{7, api.Op{Kind: 3, Old: 7, Val: 4, Who: 5}, 4, true},
		{7, api.Op{Kind: 3, Old: 6, Val: 4, Who: 7}, 7, false},
		{0, api.Op{Kind: 3, Old: 1, Val: 4, Who: 7}, 0, false},
		{0, api.Op{Kind: 3, Val: 4}, 4, true},
		{-5, api.Op{Kind: 3, Old: -5, Val: -6}, -6, true},
		{7, api.Op{Kind: 3, Old: 1<<32 | 7, Val: 4}, 7, false},
		{0, api.Op{Kind: 4, Old: 9, Val: 8, Who: 5}, 5, true},
		{5, api.Op{Kind: 4, Old: 5, Val: 8, Who: 5}, 5, false},
		{3, api.Op{Kind: 4, Old: 3, Val: 8, Who: 5}, 3, false},
		{-1, api.Op{Kind: 4, Who: 5}, -1, false},
		{5, api.Op{Kind: 5, Old: 9, Val: 8, Who: 5}, 0, true},
		{5, api.Op{Kind: 5, Old: 5, Val: 8, Who: 4}, 5, false},
		{0, api.Op{Kind: 5, Who: 4}, 0, false},
		{-4, api.Op{Kind: 5, Who: 4}, -4, false},
	} {
		vals, r := Apply([]int64{x.got}, x.o)
		if len(vals) != 1 || vals[0] != x.val || r != (api.Rec{Op: x.o, Got: x.got, Ok: x.ok}) {
			t.Fatal(x, vals, r)
		}
	}
}

// P4.2: a step that may not be leaves the values, and is no Rec.
func TestApplyWrong(t *testing.T) {
	l := []int64{5, 6, 7}
	for _, o := range wrong(len(l)) {
		if vals, r := Apply(l, o); !slices.Equal(vals, []int64{5, 6, 7}) || r != (api.Rec{}) {
			t.Fatal(o, vals, r)
		}
	}
	for _, none := range [][]int64{nil, {}, l[:0]} {
		for kind := 0; kind <= 6; kind++ {
			if vals, r := Apply(none, api.Op{Kind: kind, Who: 1}); len(vals) != 0 || r != (api.Rec{}) {
				t.Fatal(kind, vals, r)
			}
		}
	}
}

// P4.2: Apply asks how many values there are, not how many cells New would make.
func TestApplyMany(t *testing.T) {
	l := make([]int64, api.MaxCells+2)
	o := api.Op{Kind: api.OpStore, Cell: len(l) - 1, Val: 3}
	vals, r := Apply(l, o)
	if len(vals) != len(l) || vals[len(l)-1] != 3 || r != (api.Rec{Op: o, Ok: true}) {
		t.Fatal(len(vals), r)
	}
}

// P4.2: what is handed in is not changed, its spare room neither, and what is answered shares nothing with it.
func TestApplyShares(t *testing.T) {
	for _, o := range []api.Op{{Kind: api.OpStore, Cell: 1, Val: 9}, {Kind: api.OpLoad}, {Kind: 6}, {Kind: api.OpStore, Cell: 3, Val: 9}} {
		for n := range 4 {
			room := []int64{5, 6, 7, 8}
			vals, _ := Apply(room[:n], o)
			kept := slices.Clone(vals)
			whole := append(vals, 77)
			whole = whole[:cap(whole)]
			for i := range whole {
				whole[i] = 99
			}
			if !slices.Equal(room, []int64{5, 6, 7, 8}) {
				t.Fatal(o, n, room)
			}
			again, _ := Apply(room[:n], o)
			for i := range room {
				room[i] = -1
			}
			if !slices.Equal(again, kept) {
				t.Fatal(o, n, again, kept)
			}
		}
	}
}

// P4.3: what Do answers and leaves is what the document says of the step.
func TestDo(t *testing.T) {
	for _, n := range []int{1, 3, api.MaxCells} {
		for _, cell := range []int{0, n - 1} {
			for _, got := range []int64{0, 1, 3, -1, math.MinInt64} {
				for _, o := range steps(cell) {
					c := &Cells{vals: make([]int64, n)}
					c.vals[cell] = got
					val, want := told(got, o)
					g, ok, e := c.Do(o)
					if g != got || ok != want || e != api.OK || c.vals[cell] != val {
						t.Fatal(n, o, got, g, ok, e, c.vals[cell])
					}
				}
				if n == api.MaxCells {
					break
				}
			}
		}
	}
}

// P4.3: the chapter's example, and the one beside it alone is changed.
func TestDoExample(t *testing.T) {
	c := made(t, 2)
	for _, x := range []struct {
		kind, who int
		got       int64
		ok        bool
		peek      []int64
	}{
		{api.OpTry, 3, 0, true, []int64{0, 3}},
		{api.OpTry, 4, 3, false, []int64{0, 3}},
		{api.OpFree, 4, 3, false, []int64{0, 3}},
		{api.OpTry, 3, 3, false, []int64{0, 3}},
		{api.OpFree, 3, 3, true, []int64{0, 0}},
		{api.OpFree, 3, 0, false, []int64{0, 0}},
		{api.OpTry, 4, 0, true, []int64{0, 4}},
	} {
		got, ok, e := c.Do(api.Op{Kind: x.kind, Cell: 1, Who: x.who})
		if got != x.got || ok != x.ok || e != api.OK || !slices.Equal(c.Peek(), x.peek) {
			t.Fatal(x, got, ok, e, c.Peek())
		}
	}
}

// P4.3, P4.4: a step that is refused is none.
func TestDoWrong(t *testing.T) {
	c := made(t, 3)
	c.Do(api.Op{Kind: api.OpStore, Cell: 2, Val: 5})
	for _, o := range wrong(3) {
		if got, ok, e := c.Do(o); got != 0 || ok || e != api.ErrArg {
			t.Fatal(o, got, ok, e)
		}
	}
	if !slices.Equal(c.Peek(), []int64{0, 0, 5}) || c.Steps() != 1 || len(c.Trace()) != 1 {
		t.Fatal(c.Peek(), c.Steps(), c.Trace())
	}
	none := made(t, 0)
	for kind := 0; kind <= 6; kind++ {
		if got, ok, e := none.Do(api.Op{Kind: kind, Who: 1}); got != 0 || ok || e != api.ErrArg {
			t.Fatal(kind, got, ok, e)
		}
	}
}

// P4.3: what Peek answered is not what the cells have, nor what it answers another time.
func TestPeekShares(t *testing.T) {
	c := made(t, 3)
	c.Do(api.Op{Kind: api.OpStore, Cell: 1, Val: 5})
	l, other := c.Peek(), c.Peek()
	l[0], l[1] = 8, 9
	_ = append(l[:2], 10)
	if !slices.Equal(c.Peek(), []int64{0, 5, 0}) || !slices.Equal(other, []int64{0, 5, 0}) {
		t.Fatal(c.Peek(), other)
	}
	c.Do(api.Op{Kind: api.OpStore, Cell: 1, Val: 6})
	if !slices.Equal(other, []int64{0, 5, 0}) {
		t.Fatal(other)
	}
}

// P4.4: all steps are counted, those that were not Ok and loads too, and the first MaxTrace are kept as they were.
func TestTrace(t *testing.T) {
	c := made(t, 3)
	want := []api.Rec{}
	vals := make([]int64, 3)
	for i := range api.MaxTrace + 5 {
		o := api.Op{Kind: 1 + i%5, Cell: i % 3, Old: int64(i % 4), Val: int64(i % 7), Who: 1 + i%2}
		val, ok := told(vals[o.Cell], o)
		if len(want) < api.MaxTrace {
			want = append(want, api.Rec{Op: o, Got: vals[o.Cell], Ok: ok})
		}
		vals[o.Cell] = val
		c.Do(o)
		if c.Steps() != i+1 || len(c.Trace()) != min(i+1, api.MaxTrace) {
			t.Fatal(i, c.Steps(), len(c.Trace()))
		}
	}
	if !slices.Equal(c.Trace(), want) || !slices.Equal(c.Peek(), vals) || c.Len() != 3 {
		t.Fatal(c.Trace(), c.Peek(), vals)
	}
}

// P4.4: what Trace answered may be written to, its spare room too.
func TestTraceShares(t *testing.T) {
	c := made(t, 1)
	for i := range 5 {
		c.Do(api.Op{Kind: api.OpStore, Val: int64(i + 1)})
	}
	l, other := c.Trace(), c.Trace()
	kept := slices.Clone(l)
	whole := l[:cap(l)]
	for i := range whole {
		whole[i] = api.Rec{Got: 99}
	}
	if !slices.Equal(c.Trace(), kept) || !slices.Equal(other, kept) {
		t.Fatal(c.Trace(), other)
	}
	_ = append(other, api.Rec{Got: 98})
	c.Do(api.Op{Kind: api.OpLoad})
	if last := c.Trace()[5]; last != (api.Rec{Op: api.Op{Kind: api.OpLoad}, Got: 5, Ok: true}) || len(other) != 5 {
		t.Fatal(last, other)
	}
}

// P4.3, P4.4, P4.6: each call on a nil Cells, of two errors ErrNone ahead.
func TestNil(t *testing.T) {
	var c *Cells
	for _, o := range append(wrong(3), steps(0)...) {
		if got, ok, e := c.Do(o); got != 0 || ok || e != api.ErrNone {
			t.Fatal(o, got, ok, e)
		}
	}
	if len(c.Peek()) != 0 || c.Steps() != 0 || len(c.Trace()) != 0 || c.Len() != 0 {
		t.Fatal(c.Peek(), c.Steps(), c.Trace(), c.Len())
	}
	for _, l := range [][]int64{nil, {}, {1}, {1, 2}} {
		if e := c.Lay(l); e != api.ErrNone {
			t.Fatal(l, e)
		}
	}
	for _, cell := range append([]int{0, 1, math.MaxInt}, below...) {
		if v := c.At(cell); v != 0 {
			t.Fatal(cell, v)
		}
	}
}

// P4.6: what is laid is had, and is no step.
func TestLay(t *testing.T) {
	c := made(t, 3)
	for _, l := range [][]int64{{5, -6, 7}, {0, 0, 0}, {math.MaxInt64, math.MinInt64, 1}} {
		c.Do(api.Op{Kind: api.OpStore, Cell: 1, Val: 4})
		steps, trace := c.Steps(), c.Trace()
		if e := c.Lay(l); e != api.OK || !slices.Equal(c.Peek(), l) {
			t.Fatal(l, e, c.Peek())
		}
		if c.Steps() != steps || !slices.Equal(c.Trace(), trace) || c.Len() != 3 {
			t.Fatal(c.Steps(), c.Trace(), c.Len())
		}
	}
	if got, ok, e := c.Do(api.Op{Kind: api.OpLoad}); got != math.MaxInt64 || !ok || e != api.OK {
		t.Fatal(got, ok, e)
	}
}

func TestLayWrong(t *testing.T) {
	c := made(t, 2)
	c.Lay([]int64{3, 4})
	for _, l := range [][]int64{nil, {}, {1}, {1, 2, 3}, make([]int64, api.MaxCells), make([]int64, 1, 2)} {
		if e := c.Lay(l); e != api.ErrArg || !slices.Equal(c.Peek(), []int64{3, 4}) || c.Len() != 2 {
			t.Fatal(l, e, c.Peek())
		}
	}
	none := made(t, 0)
	if none.Lay(nil) != api.OK || none.Lay([]int64{}) != api.OK || none.Lay([]int64{0}) != api.ErrArg || none.Len() != 0 {
		t.Fatal(none.Peek())
	}
	most := made(t, api.MaxCells)
	if most.Lay(make([]int64, api.MaxCells+1)) != api.ErrArg || most.Lay(make([]int64, api.MaxCells-1)) != api.ErrArg || most.Lay(make([]int64, api.MaxCells)) != api.OK {
		t.Fatal(most.Len())
	}
}

// P4.6: the list that is laid is neither kept nor changed.
func TestLayShares(t *testing.T) {
	c := made(t, 2)
	room := []int64{3, 4, 5}
	c.Lay(room[:2])
	c.Do(api.Op{Kind: api.OpStore, Cell: 0, Val: 8})
	if !slices.Equal(room, []int64{3, 4, 5}) {
		t.Fatal(room)
	}
	room[1] = 9
	if !slices.Equal(c.Peek(), []int64{8, 4}) {
		t.Fatal(c.Peek())
	}
}

// P4.6: At is a cell's value, without a step; there are no cells beside.
func TestAt(t *testing.T) {
	c := made(t, 3)
	c.Lay([]int64{5, -6, 7})
	for cell, v := range []int64{5, -6, 7} {
		if c.At(cell) != v {
			t.Fatal(cell, c.At(cell))
		}
	}
	for _, cell := range append([]int{3, 4, api.MaxCells, 1 << 32, math.MaxInt}, below...) {
		if c.At(cell) != 0 {
			t.Fatal(cell, c.At(cell))
		}
	}
	if c.Steps() != 0 || len(c.Trace()) != 0 {
		t.Fatal(c.Steps(), c.Trace())
	}
	if none := made(t, 0); none.At(0) != 0 || none.At(-1) != 0 {
		t.Fatal(none.At(0))
	}
	most := made(t, api.MaxCells)
	most.Do(api.Op{Kind: api.OpStore, Cell: api.MaxCells - 1, Val: 2})
	if most.At(api.MaxCells-1) != 2 || most.At(api.MaxCells) != 0 || most.At(api.MaxCells-2) != 0 {
		t.Fatal(most.At(api.MaxCells - 1))
	}
}

// P4.5: the values are those of the trace's steps, from 0 or from what was laid on; each Got is what was there.
func TestOneBehindTheOther(t *testing.T) {
	for _, laid := range [][]int64{nil, {0, 2, -3, 1}} {
		c := made(t, 4)
		vals := make([]int64, 4)
		if laid != nil {
			c.Lay(laid)
			vals = slices.Clone(laid)
		}
		for i := range api.MaxTrace {
			x := i * i * 7
			c.Do(api.Op{Kind: 1 + x/3%5, Cell: x / 11 % 4, Old: int64(x % 3), Val: int64(x % 5), Who: 1 + x%3})
		}
		for _, r := range c.Trace() {
			var again api.Rec
			if vals, again = Apply(vals, r.Op); again != r {
				t.Fatal(r, again)
			}
		}
		if !slices.Equal(c.Peek(), vals) || len(c.Trace()) != c.Steps() {
			t.Fatal(c.Peek(), vals)
		}
	}
}

// P4.5: of several who try, one has the lock, and it alone lets it go.
func TestOneHasIt(t *testing.T) {
	c := made(t, 1)
	for round := range 12 {
		has := 0
		for i := range 6 {
			who := 1 + (i+round*5)%6
			if _, ok, _ := c.Do(api.Op{Kind: api.OpTry, Who: who}); ok {
				if has != 0 {
					t.Fatal(has, who)
				}
				has = who
			}
		}
		if has == 0 || c.At(0) != int64(has) {
			t.Fatal(has, c.At(0))
		}
		for who := 1; who <= 6; who++ {
			if who == has {
				continue
			}
			if got, ok, _ := c.Do(api.Op{Kind: api.OpFree, Who: who}); ok || got != int64(has) || c.At(0) != int64(has) {
				t.Fatal(who, has, got)
			}
		}
		if _, ok, _ := c.Do(api.Op{Kind: api.OpFree, Who: has}); !ok || c.At(0) != 0 {
			t.Fatal(has, c.At(0))
		}
	}
}

package carve

import (
	"math"
	"math/big"
	"slices"
	"testing"

	"garrison/api"
)

// space is how much memory there is, written out.
const space = 1048576

// ends are numbers at the ends of int, and such as are small again if bits of them are lost.
var ends = []int{math.MinInt, math.MinInt + 1, math.MinInt + space, math.MaxInt, math.MaxInt - 1, math.MaxInt - space, math.MaxInt - space + 1,
	1 << 31, -1 << 31, 1 << 32, 1<<32 + 1, 1<<32 + 16, -1 << 32, 1 << 58, -1 << 58, 1 << 62, -1 << 62, 1<<62 + 4}

// allSizes are all 21 sizes there are.
var allSizes = []int{1, 2, 4, 8, 16, 32, 64, 128, 256, 512, 1024, 2048, 4096, 8192, 16384, 32768, 65536, 131072, 262144, 524288, 1048576}

// noSizes are numbers that are no size.
var noSizes = append([]int{0, -1, -2, -4, -16, -space, 3, 5, 6, 7, 9, 12, 15, 17, 24, 63, 65, 96, 524287, 524289, 786432, 1048575, 1048577, 2097152, 3145728}, ends...)

// ext is the extent from start on.
func ext(start, size int) api.Extent { return api.Extent{Start: start, Size: size} }

// over says whether the sum of numbers is above most, however great they are.
func over(most int, numbers ...int) bool {
	sum := big.NewInt(0)
	for _, n := range numbers {
		sum.Add(sum, big.NewInt(int64(n)))
	}
	return sum.Cmp(big.NewInt(int64(most))) > 0
}

// may is what the document says of Check.
func may(x api.Extent) bool { return x.Start >= 0 && x.Size >= 1 && !over(space, x.Start, x.Size) }

// up is what the document says of Align, of what may be: one is asked behind the other.
func up(at, size int) int {
	for at%size != 0 {
		at++
	}
	return at
}

// carved is what the document says of Carve.
func carved(x api.Extent, water, size int) (api.Extent, int, api.Errno) {
	if !may(x) || !slices.Contains(allSizes, size) || water < 0 || water > x.Size {
		return api.Extent{}, water, api.ErrArg
	}
	start := up(x.Start+water, size)
	if start+size > x.Start+x.Size {
		return api.Extent{}, water, api.ErrFull
	}
	return ext(start, size), start + size - x.Start, api.OK
}

// manyCarved is what the document says of Many.
func manyCarved(x api.Extent, water int, sizes []int) ([]api.Extent, int, api.Errno) {
	l, at := []api.Extent{}, water
	for _, size := range sizes {
		a, next, e := carved(x, at, size)
		if e != api.OK {
			return nil, water, e
		}
		l, at = append(l, a), next
	}
	return l, at, api.OK
}

// asCarved holds Carve against what the document says.
func asCarved(t *testing.T, x api.Extent, water, size int) {
	t.Helper()
	want, wantW, wantE := carved(x, water, size)
	if a, w, e := Carve(x, water, size); a != want || w != wantW || e != wantE {
		t.Fatal(x, water, size, "answers", a, w, e, "asked", want, wantW, wantE)
	}
}

// edgeExtents are extents at the edges of what may be, and right behind them, and such as are wrong.
func edgeExtents() []api.Extent {
	l := []api.Extent{}
	numbers := append([]int{-space - 1, -space, -2, -1, 0, 1, 2, 15, 16, 17, 100, 524287, 524288, 524289, 1048574, 1048575, 1048576, 1048577, 2097152}, ends...)
	for _, start := range numbers {
		for _, size := range numbers {
			l = append(l, ext(start, size))
		}
	}
	return l
}

// smallExtents are all that start and end within 0 to n, and some that may not be.
func smallExtents(n int) []api.Extent {
	l := []api.Extent{{}, ext(-1, 1), ext(-1, 3), ext(0, -1), ext(2, 0), ext(2, -1), ext(space, 1)}
	for start := range n {
		for size := 1; start+size <= n; size++ {
			l = append(l, ext(start, size))
		}
	}
	return l
}

// TestSize: P10.1, each type, and n that has a part in one of them alone.
func TestSize(t *testing.T) {
	fixed := map[int]int{api.TyNode: 64, api.TyFrame: 16, api.TyEndpoint: 4, api.TyNotice: 4}
	for kind, want := range fixed {
		for _, n := range slices.Concat(allSizes, noSizes) {
			if size, e := Size(kind, n); size != want || e != api.OK {
				t.Error(kind, n, size, e)
			}
		}
	}
	for _, n := range allSizes {
		if size, e := Size(api.TyUntyped, n); size != n || e != api.OK {
			t.Error(n, size, e)
		}
	}
	for _, n := range noSizes {
		if size, e := Size(api.TyUntyped, n); size != 0 || e != api.ErrArg {
			t.Error(n, size, e)
		}
	}
}

// TestSizeAllUntyped: P10.1, of all numbers about those that may be, just 21 are sizes.
func TestSizeAllUntyped(t *testing.T) {
	got := []int{}
	for n := -space; n <= 4*space; n++ {
		size, e := Size(api.TyUntyped, n)
		if e == api.OK && size == n {
			got = append(got, n)
		} else if size != 0 || e != api.ErrArg {
			t.Fatal(n, size, e)
		}
	}
	if !slices.Equal(got, allSizes) {
		t.Error(got)
	}
}

// TestSizeNoType: P10.1, what is no type needs nothing, whatever n is.
func TestSizeNoType(t *testing.T) {
	for _, kind := range append([]int{api.TyNone, -1, -2, -5, 6, 7, 8, 64, 257, 65537}, ends...) {
		for _, n := range slices.Concat(allSizes, noSizes) {
			if size, e := Size(kind, n); size != 0 || e != api.ErrArg {
				t.Error(kind, n, size, e)
			}
		}
	}
}

// TestCheckWritten: P10.1, written out one by one.
func TestCheckWritten(t *testing.T) {
	cases := []struct {
		x api.Extent
		e api.Errno
	}{
		{api.Extent{}, api.ErrArg},
		{ext(0, 1), api.OK},
		{ext(0, 0), api.ErrArg},
		{ext(0, -1), api.ErrArg},
		{ext(-1, 1), api.ErrArg},
		{ext(-1, 2), api.ErrArg},
		{ext(-1, space), api.ErrArg},
		{ext(1, 1), api.OK},
		{ext(5, 3), api.OK},
		{ext(0, 1048575), api.OK},
		{ext(0, 1048576), api.OK},
		{ext(0, 1048577), api.ErrArg},
		{ext(1, 1048575), api.OK},
		{ext(1, 1048576), api.ErrArg},
		{ext(524288, 524288), api.OK},
		{ext(524288, 524289), api.ErrArg},
		{ext(524289, 524288), api.ErrArg},
		{ext(1048575, 1), api.OK},
		{ext(1048575, 2), api.ErrArg},
		{ext(1048575, 0), api.ErrArg},
		{ext(1048576, 1), api.ErrArg},
		{ext(1048576, 0), api.ErrArg},
		{ext(1048577, -1), api.ErrArg},
		{ext(math.MaxInt, 1), api.ErrArg},
		{ext(1, math.MaxInt), api.ErrArg},
		{ext(math.MaxInt, math.MaxInt), api.ErrArg},
		{ext(math.MaxInt, math.MinInt), api.ErrArg},
		{ext(math.MinInt, math.MaxInt), api.ErrArg},
		{ext(math.MinInt, math.MinInt), api.ErrArg},
		{ext(0, math.MinInt), api.ErrArg},
		{ext(math.MinInt, 1), api.ErrArg},
	}
	for _, c := range cases {
		if e := Check(c.x); e != c.e {
			t.Error(c.x, e)
		}
	}
}

// TestCheck: P10.1, each edge of Start with each of Size.
func TestCheck(t *testing.T) {
	for _, x := range append(edgeExtents(), smallExtents(9)...) {
		want := api.ErrArg
		if may(x) {
			want = api.OK
		}
		if e := Check(x); e != want {
			t.Error(x, e)
		}
	}
}

// TestAlign: P10.2, each place there is, with each size: the multiples are counted up.
func TestAlign(t *testing.T) {
	for _, size := range allSizes {
		next := 0
		for at := range space + 1 {
			if at > next {
				next += size
			}
			if got := Align(at, size); got != next {
				t.Fatal(at, size, got, next)
			}
		}
	}
}

// TestAlignWritten: P10.2, written out one by one.
func TestAlignWritten(t *testing.T) {
	cases := [][3]int{
		{0, 1, 0}, {0, 16, 0}, {0, 1048576, 0}, {1, 1, 1}, {1, 2, 2}, {2, 2, 2}, {3, 2, 4},
		{1, 16, 16}, {15, 16, 16}, {16, 16, 16}, {17, 16, 32}, {96, 16, 96}, {97, 16, 112}, {100, 16, 112}, {112, 16, 112}, {113, 16, 128},
		{1, 1048576, 1048576}, {1048575, 1048576, 1048576}, {1048576, 1048576, 1048576},
		{524288, 524288, 524288}, {524289, 524288, 1048576}, {1048575, 1, 1048575}, {1048575, 2, 1048576}, {1048576, 1, 1048576}, {1048576, 64, 1048576},
		{1048577, 1, 0}, {1048577, 2, 0}, {1048577, 1048576, 0}, {2097152, 16, 0}, {-1, 1, 0}, {-16, 16, 0}, {-15, 16, 0},
		{1, 3, 0}, {3, 3, 0}, {5, 0, 0}, {5, -1, 0}, {5, -4, 0}, {5, 12, 0}, {5, 2097152, 0}, {0, 2097152, 0}, {5, 1048577, 0},
	}
	for _, c := range cases {
		if got := Align(c[0], c[1]); got != c[2] {
			t.Error(c, got)
		}
	}
}

// TestAlignWrong: P10.2, a place or a size that may not be, and both of them.
func TestAlignWrong(t *testing.T) {
	wrong := append([]int{-1, -2, -16, -64, -1048576, 1048577, 1048578, 1048592, 2097152}, ends...)
	for _, at := range wrong {
		for _, size := range slices.Concat(allSizes, noSizes) {
			if got := Align(at, size); got != 0 {
				t.Error(at, size, got)
			}
		}
	}
	for _, at := range []int{0, 1, 2, 3, 15, 16, 17, 524288, 1048575, 1048576} {
		for _, size := range noSizes {
			if got := Align(at, size); got != 0 {
				t.Error(at, size, got)
			}
		}
	}
}

// TestCarveWritten: P10.3, written out one by one.
func TestCarveWritten(t *testing.T) {
	x, all := ext(100, 50), ext(0, space)
	cases := []struct {
		x           api.Extent
		water, size int
		a           api.Extent
		then        int
		e           api.Errno
	}{
		{x, 3, 16, ext(112, 16), 28, api.OK},
		{x, 40, 16, api.Extent{}, 40, api.ErrFull},
		{x, 0, 1, ext(100, 1), 1, api.OK},
		{x, 0, 4, ext(100, 4), 4, api.OK},
		{x, 0, 8, ext(104, 8), 12, api.OK},
		{x, 1, 4, ext(104, 4), 8, api.OK},
		{x, 0, 32, api.Extent{}, 0, api.ErrFull},
		{x, 0, 64, api.Extent{}, 0, api.ErrFull},
		{x, 28, 16, ext(128, 16), 44, api.OK},
		{x, 29, 16, api.Extent{}, 29, api.ErrFull},
		{x, 49, 1, ext(149, 1), 50, api.OK},
		{x, 48, 2, ext(148, 2), 50, api.OK},
		{x, 49, 2, api.Extent{}, 49, api.ErrFull},
		{x, 50, 1, api.Extent{}, 50, api.ErrFull},
		{x, 50, 1048576, api.Extent{}, 50, api.ErrFull},
		{x, 51, 1, api.Extent{}, 51, api.ErrArg},
		{x, -1, 1, api.Extent{}, -1, api.ErrArg},
		{x, 0, 0, api.Extent{}, 0, api.ErrArg},
		{x, 7, 3, api.Extent{}, 7, api.ErrArg},
		{x, 0, -4, api.Extent{}, 0, api.ErrArg},
		{ext(64, 64), 0, 64, ext(64, 64), 64, api.OK},
		{ext(64, 64), 1, 64, api.Extent{}, 1, api.ErrFull},
		{ext(64, 64), 0, 128, api.Extent{}, 0, api.ErrFull},
		{ext(32, 64), 0, 64, api.Extent{}, 0, api.ErrFull},
		{ext(1, 3), 0, 2, ext(2, 2), 3, api.OK},
		{ext(1, 2), 0, 2, api.Extent{}, 0, api.ErrFull},
		{ext(1, 2), 0, 1024, api.Extent{}, 0, api.ErrFull},
		{all, 0, 1048576, all, 1048576, api.OK},
		{all, 1, 1048576, api.Extent{}, 1, api.ErrFull},
		{all, 1, 524288, ext(524288, 524288), 1048576, api.OK},
		{all, 0, 2097152, api.Extent{}, 0, api.ErrArg},
		{all, 1048575, 1, ext(1048575, 1), 1048576, api.OK},
		{all, 1048576, 1, api.Extent{}, 1048576, api.ErrFull},
		{all, 1048577, 1, api.Extent{}, 1048577, api.ErrArg},
		{ext(1048575, 1), 0, 1, ext(1048575, 1), 1, api.OK},
		{ext(1048575, 1), 0, 2, api.Extent{}, 0, api.ErrFull},
		{ext(1048575, 1), 0, 1048576, api.Extent{}, 0, api.ErrFull},
	}
	for _, c := range cases {
		if a, w, e := Carve(c.x, c.water, c.size); a != c.a || w != c.then || e != c.e {
			t.Error(c, a, w, e)
		}
	}
}

// TestCarveSmall: P10.3, each extent of a small space, and one at the end of all, with each water and each size about it.
func TestCarveSmall(t *testing.T) {
	for _, first := range []int{0, space - 24} {
		for _, x := range smallExtents(24) {
			x.Start += first
			for water := -2; water <= x.Size+2; water++ {
				for size := -2; size <= 66; size++ {
					asCarved(t, x, water, size)
				}
			}
		}
	}
}

// TestCarveGreat: P10.3, each size in extents that are as great, twice and half of it, at a multiple of it and beside.
func TestCarveGreat(t *testing.T) {
	for _, size := range allSizes {
		for _, start := range []int{0, 1, size - 1, size, size + 1, space/2 - size, space - 2*size, space - size - 1, space - size} {
			for _, long := range []int{1, size / 2, size - 1, size, size + 1, 2*size - 1, 2 * size, 2*size + 1, space - start} {
				for _, water := range []int{-1, 0, 1, size - 1, size, size + 1, long - size - 1, long - size, long - size + 1, long - 1, long, long + 1} {
					asCarved(t, ext(start, long), water, size)
				}
			}
		}
	}
}

// TestCarveWrong: P10.3, numbers at the ends of int in each place, and together: the water is answered as it was handed in.
func TestCarveWrong(t *testing.T) {
	few := []int{math.MinInt, -1, 0, 1, 3, 16, space, space + 1, math.MaxInt - space, math.MaxInt}
	for _, x := range edgeExtents() {
		for _, water := range few {
			for _, size := range few {
				asCarved(t, x, water, size)
			}
		}
	}
	for _, x := range []api.Extent{ext(100, 50), ext(0, space), ext(space-1, 1)} {
		for _, number := range slices.Concat(allSizes, noSizes) {
			for _, other := range slices.Concat(allSizes, noSizes) {
				asCarved(t, x, number, other)
			}
		}
	}
}

// TestCarveFirstError: P10.3, where it would not end within x either, ErrArg comes ahead of ErrFull.
func TestCarveFirstError(t *testing.T) {
	x := ext(100, 50)
	cases := []struct {
		x           api.Extent
		water, size int
	}{
		{ext(space, 1), 0, 64}, {ext(0, 0), 0, 64}, {ext(-1, 5), 0, 64}, {ext(5, -1), 0, 64}, {api.Extent{}, 0, 1},
		{x, 0, 51}, {x, 50, 3}, {x, 0, 2 * space}, {x, 51, 16}, {x, 1000, 1}, {x, -1, 64}, {x, -1, 51}, {x, 51, 0},
		{ext(space, 1), 2, 3}, {x, math.MaxInt, 1}, {x, 0, math.MaxInt}, {x, math.MinInt, 64},
	}
	for _, c := range cases {
		if a, w, e := Carve(c.x, c.water, c.size); a != (api.Extent{}) || w != c.water || e != api.ErrArg {
			t.Error(c, a, w, e)
		}
	}
}

// TestManyWritten: P10.4, written out one by one.
func TestManyWritten(t *testing.T) {
	x := ext(100, 50)
	cases := []struct {
		water int
		sizes []int
		l     []api.Extent
		then  int
		e     api.Errno
	}{
		{0, nil, nil, 0, api.OK},
		{7, nil, nil, 7, api.OK},
		{50, []int{}, nil, 50, api.OK},
		{0, []int{4}, []api.Extent{ext(100, 4)}, 4, api.OK},
		{3, []int{16}, []api.Extent{ext(112, 16)}, 28, api.OK},
		{0, []int{4, 4, 16}, []api.Extent{ext(100, 4), ext(104, 4), ext(112, 16)}, 28, api.OK},
		{0, []int{16, 4, 4}, []api.Extent{ext(112, 16), ext(128, 4), ext(132, 4)}, 36, api.OK},
		{1, []int{1, 2, 16, 16}, []api.Extent{ext(101, 1), ext(102, 2), ext(112, 16), ext(128, 16)}, 44, api.OK},
		{46, []int{4}, nil, 46, api.ErrFull},
		{44, []int{4, 2}, []api.Extent{ext(144, 4), ext(148, 2)}, 50, api.OK},
		{44, []int{4, 2, 1}, nil, 44, api.ErrFull},
		{2, []int{3, 4, 4}, nil, 2, api.ErrArg},
		{2, []int{4, 3, 4}, nil, 2, api.ErrArg},
		{2, []int{4, 4, 3}, nil, 2, api.ErrArg},
		{2, []int{64, 4, 4}, nil, 2, api.ErrFull},
		{2, []int{4, 64, 4}, nil, 2, api.ErrFull},
		{2, []int{4, 4, 64}, nil, 2, api.ErrFull},
		{2, []int{64, 3}, nil, 2, api.ErrFull},
		{2, []int{3, 64}, nil, 2, api.ErrArg},
		{2, []int{4, 64, 3}, nil, 2, api.ErrFull},
		{2, []int{4, 3, 64}, nil, 2, api.ErrArg},
		{51, []int{1}, nil, 51, api.ErrArg},
		{-1, []int{1, 1}, nil, -1, api.ErrArg},
		{math.MaxInt, []int{1}, nil, math.MaxInt, api.ErrArg},
		{math.MinInt, []int{1}, nil, math.MinInt, api.ErrArg},
		{0, []int{math.MaxInt}, nil, 0, api.ErrArg},
		{5, []int{1, math.MinInt}, nil, 5, api.ErrArg},
	}
	for _, c := range cases {
		if l, w, e := Many(x, c.water, c.sizes...); !slices.Equal(l, c.l) || w != c.then || e != c.e {
			t.Error(c, l, w, e)
		}
	}
}

// TestManyOfNone: P10.4, of no sizes nothing is carved, and nothing is refused.
func TestManyOfNone(t *testing.T) {
	for _, x := range edgeExtents() {
		for _, water := range append([]int{-1, 0, 1, 50}, ends...) {
			l, w, e := Many(x, water)
			if len(l) != 0 || w != water || e != api.OK {
				t.Fatal(x, water, l, w, e)
			}
		}
	}
}

// sequences calls visit with each list of at most n of those numbers.
func sequences(n int, numbers []int, visit func(l []int)) {
	var more func(l []int)
	more = func(l []int) {
		visit(l)
		if len(l) == n {
			return
		}
		for _, number := range numbers {
			more(append(slices.Clone(l), number))
		}
	}
	more(nil)
}

// someExtents are extents at a multiple of a size and beside one, at the beginning and at the end of all, and some that may not be.
func someExtents() []api.Extent {
	return []api.Extent{ext(0, 32), ext(0, 33), ext(1, 31), ext(7, 40), ext(100, 50), ext(15, 18), ext(33, 1),
		ext(space-32, 32), ext(space-41, 41), ext(space-1, 1), ext(space-31, 32), {}, ext(-1, 40), ext(3, -3)}
}

// TestMany: P10.4, all lists of some sizes and of numbers that are none, at each water.
func TestMany(t *testing.T) {
	for _, x := range someExtents() {
		for water := -1; water <= x.Size+1; water++ {
			sequences(4, []int{1, 2, 4, 16, 32, 3, 0}, func(sizes []int) {
				want, wantW, wantE := manyCarved(x, water, sizes)
				l, w, e := Many(x, water, sizes...)
				if !slices.Equal(l, want) || w != wantW || e != wantE {
					t.Fatal(x, water, sizes, "answers", l, w, e, "asked", want, wantW, wantE)
				}
			})
		}
	}
}

// TestManyWrong: P10.4, with numbers at the ends of int the first error is told, and the water is as it was.
func TestManyWrong(t *testing.T) {
	for _, x := range edgeExtents() {
		for _, water := range []int{math.MinInt, -1, 0, 1, space, math.MaxInt} {
			for _, sizes := range [][]int{{1}, {4, 4}, {1, space}, {2, math.MaxInt}, {math.MinInt, 1}, {1, 1, 3}} {
				want, wantW, wantE := manyCarved(x, water, sizes)
				if l, w, e := Many(x, water, sizes...); !slices.Equal(l, want) || w != wantW || e != wantE {
					t.Fatal(x, water, sizes, l, w, e)
				}
			}
		}
	}
}

// TestManyFills: P10.4, all memory there is, in as many pieces as there can be; there is no room for one more.
func TestManyFills(t *testing.T) {
	x := ext(0, space)
	sizes := slices.Repeat([]int{1}, space)
	l, w, e := Many(x, 0, sizes...)
	if len(l) != space || w != space || e != api.OK || !Apart(l...) {
		t.Fatal(len(l), w, e)
	}
	for i, a := range l {
		if a != ext(i, 1) {
			t.Fatal(i, a)
		}
	}
	if l, w, e := Many(x, 0, append(sizes, 1)...); len(l) != 0 || w != 0 || e != api.ErrFull {
		t.Error(len(l), w, e)
	}
}

// TestManyOwn: P10.4, the sizes are not written to, nor is their room, and each answer is a list of its own.
func TestManyOwn(t *testing.T) {
	x := ext(100, 50)
	long := []int{4, 4, 16, 99, 99, 99}
	for _, n := range []int{0, 1, 3, 4} {
		sizes := long[:n]
		want, wantW, wantE := manyCarved(x, 0, sizes)
		first, _, _ := Many(x, 0, sizes...)
		second, _, _ := Many(x, 0, sizes...)
		first = first[:cap(first)]
		for i := range first {
			first[i] = ext(-7, -7)
		}
		third, w, e := Many(x, 0, sizes...)
		if !slices.Equal(second, want) || !slices.Equal(third, want) || w != wantW || e != wantE {
			t.Error(n, second, third, w, e)
		}
		if !slices.Equal(long, []int{4, 4, 16, 99, 99, 99}) {
			t.Fatal(long)
		}
	}
}

// shares says whether both may be, and there is a place in a that is in b too: they are asked one by one.
func shares(a, b api.Extent) bool {
	if !may(a) || !may(b) {
		return false
	}
	for at := a.Start; at < a.Start+a.Size; at++ {
		if at >= b.Start && at < b.Start+b.Size {
			return true
		}
	}
	return false
}

// within says whether both may be, and each place in a is in b too.
func within(a, b api.Extent) bool {
	if !may(a) || !may(b) {
		return false
	}
	for at := a.Start; at < a.Start+a.Size; at++ {
		if at < b.Start || at >= b.Start+b.Size {
			return false
		}
	}
	return true
}

// TestTwo: P10.5, each two extents of a small space, place by place.
func TestTwo(t *testing.T) {
	for _, first := range []int{0, 50, space - 10} {
		l := smallExtents(10)
		for i := range l {
			l[i].Start += first
		}
		for _, a := range l {
			for _, b := range l {
				if got, want := Inside(a, b), within(a, b); got != want {
					t.Error("inside", a, b, got)
				}
				if got, want := Meet(a, b), shares(a, b); got != want {
					t.Error("meet", a, b, got)
				}
				if got, want := Apart(a, b), may(a) && may(b) && !shares(a, b); got != want {
					t.Error("apart", a, b, got)
				}
			}
		}
	}
}

// TestTwoWritten: P10.5, written out one by one.
func TestTwoWritten(t *testing.T) {
	b := ext(10, 10)
	cases := []struct {
		a            api.Extent
		inside, meet bool
	}{
		{b, true, true},
		{ext(10, 1), true, true},
		{ext(19, 1), true, true},
		{ext(12, 4), true, true},
		{ext(10, 9), true, true},
		{ext(11, 9), true, true},
		{ext(9, 1), false, false},
		{ext(20, 1), false, false},
		{ext(9, 2), false, true},
		{ext(19, 2), false, true},
		{ext(10, 11), false, true},
		{ext(9, 11), false, true},
		{ext(9, 12), false, true},
		{ext(0, 10), false, false},
		{ext(0, 11), false, true},
		{ext(20, 10), false, false},
		{ext(0, space), false, true},
		{ext(0, space+1), false, false},
		{ext(12, 0), false, false},
		{ext(12, -1), false, false},
		{ext(-1, 30), false, false},
		{api.Extent{}, false, false},
		{ext(15, math.MaxInt), false, false},
		{ext(math.MaxInt, 15), false, false},
		{ext(math.MinInt, math.MaxInt), false, false},
		{ext(12, math.MinInt), false, false},
	}
	for _, c := range cases {
		if in, meet := Inside(c.a, b), Meet(c.a, b); in != c.inside || meet != c.meet || Meet(b, c.a) != c.meet {
			t.Error(c, in, meet)
		}
	}
	if !Inside(b, ext(0, space)) || Inside(ext(0, space), b) || !Inside(ext(0, space), ext(0, space)) {
		t.Error("all")
	}
}

// TestTwoWrong: P10.5, one that may not be is in none, has none in it, meets none, and is apart from none: not from itself either.
func TestTwoWrong(t *testing.T) {
	l := edgeExtents()
	good := []api.Extent{ext(0, 1), ext(0, space), ext(space-1, 1), ext(100, 50)}
	for _, a := range l {
		if may(a) {
			continue
		}
		for _, b := range slices.Concat(l, good) {
			if Inside(a, b) || Inside(b, a) || Meet(a, b) || Meet(b, a) || Apart(a, b) || Apart(b, a) {
				t.Fatal(a, b)
			}
		}
	}
}

// TestEdges: P10.5, great extents at the edges of what may be: what they share is told from their ends.
func TestEdges(t *testing.T) {
	l := slices.DeleteFunc(edgeExtents(), func(x api.Extent) bool { return !may(x) })
	for _, a := range l {
		for _, b := range l {
			shared := min(a.Start+a.Size, b.Start+b.Size) - max(a.Start, b.Start)
			if Meet(a, b) != (shared > 0) || Inside(a, b) != (shared == a.Size) || Apart(a, b) != (shared <= 0) {
				t.Fatal(a, b, shared)
			}
		}
	}
}

// TestApartWritten: P10.5, of none, of one, of some.
func TestApartWritten(t *testing.T) {
	a, b, c := ext(0, 4), ext(4, 4), ext(8, 8)
	cases := []struct {
		l    []api.Extent
		want bool
	}{
		{nil, true},
		{[]api.Extent{}, true},
		{[]api.Extent{a}, true},
		{[]api.Extent{ext(0, space)}, true},
		{[]api.Extent{{}}, false},
		{[]api.Extent{ext(0, space+1)}, false},
		{[]api.Extent{ext(-1, 2)}, false},
		{[]api.Extent{ext(math.MaxInt, math.MaxInt)}, false},
		{[]api.Extent{ext(math.MinInt, math.MinInt)}, false},
		{[]api.Extent{a, a}, false},
		{[]api.Extent{a, b}, true},
		{[]api.Extent{b, a}, true},
		{[]api.Extent{c, a, b}, true},
		{[]api.Extent{a, b, c, a}, false},
		{[]api.Extent{c, b, ext(3, 1)}, true},
		{[]api.Extent{c, b, ext(3, 2)}, false},
		{[]api.Extent{ext(15, 2), a, c}, false},
		{[]api.Extent{ext(16, 2), a, c}, true},
		{[]api.Extent{a, b, c, {}}, false},
		{[]api.Extent{{}, a, b, c}, false},
		{[]api.Extent{a, ext(6, 0), b}, false},
		{[]api.Extent{ext(0, 100), ext(10, 1), ext(50, 1)}, false},
		{[]api.Extent{ext(10, 1), ext(50, 1), ext(0, 100)}, false},
		{[]api.Extent{a, ext(100, 5), ext(0, 200)}, false},
		{[]api.Extent{a, ext(math.MaxInt, 1)}, false},
		{[]api.Extent{ext(1, math.MaxInt), a}, false},
	}
	for _, c := range cases {
		if got := Apart(c.l...); got != c.want {
			t.Error(c.l, got)
		}
	}
}

// TestApart: P10.5, all lists of at most three, in each order.
func TestApart(t *testing.T) {
	small := smallExtents(6)
	places := []int{}
	for i := range small {
		places = append(places, i)
	}
	sequences(3, places, func(at []int) {
		l := []api.Extent{}
		for _, i := range at {
			l = append(l, small[i])
		}
		want := true
		for i, a := range l {
			want = want && may(a)
			for _, b := range l[:i] {
				want = want && !shares(a, b)
			}
		}
		if got := Apart(l...); got != want {
			t.Fatal(l, got)
		}
	})
}

// TestApartMany: P10.5, as many as there can be, out of order; and one that is there twice, or may not be, wherever it lies.
func TestApartMany(t *testing.T) {
	l := make([]api.Extent, space)
	for i := range l {
		l[i] = ext(i*99991%space, 1)
	}
	if !Apart(l...) {
		t.Fatal("they are apart")
	}
	for _, at := range []int{0, space - 1} {
		was := l[at]
		for _, other := range []api.Extent{l[(at+space/3)%space], ext(was.Start, 0), ext(-1, 1)} {
			l[at] = other
			if Apart(l...) {
				t.Error(at, other)
			}
		}
		l[at] = was
	}
	if Apart(append(l, ext(5, 1))...) {
		t.Error("one more than there is memory")
	}
}

// TestApartOwn: P10.5, the list is not written to, and its order neither.
func TestApartOwn(t *testing.T) {
	was := []api.Extent{ext(9, 1), ext(5, 2), ext(20, 4), ext(0, 3), ext(99, 99), ext(7, 7), ext(98, 98)}
	long := slices.Clone(was)
	for n := range len(long) + 1 {
		Apart(long[:n]...)
		if !slices.Equal(long, was) {
			t.Fatal(n, long)
		}
	}
}

// follows holds what was carved against P10.6.
func follows(t *testing.T, x api.Extent, water int, l []api.Extent, then int) {
	t.Helper()
	last := x.Start + water
	for i, a := range l {
		if !within(a, x) || !Inside(a, x) || a.Start%a.Size != 0 || a.Start < last {
			t.Fatal(x, water, l, a)
		}
		if water > 0 && Meet(a, ext(x.Start, water)) {
			t.Fatal("ahead of the water", x, water, a)
		}
		for _, b := range l[:i] {
			if shares(a, b) || Meet(a, b) {
				t.Fatal(x, water, a, b)
			}
		}
		last = a.Start + a.Size
	}
	if !Apart(l...) || then != last-x.Start || then > x.Size {
		t.Fatal(x, water, l, then)
	}
}

// TestFollows: P10.6, all that is carved one behind the other, by Carve and by Many.
func TestFollows(t *testing.T) {
	for _, x := range someExtents() {
		for water := range x.Size + 1 {
			sequences(4, []int{1, 2, 4, 8, 16}, func(sizes []int) {
				l, at, full := []api.Extent{}, water, false
				for _, size := range sizes {
					a, next, e := Carve(x, at, size)
					if e != api.OK {
						full = true
						continue
					}
					l, at = append(l, a), next
				}
				follows(t, x, water, l, at)
				many, then, e := Many(x, water, sizes...)
				if (e == api.OK) == full {
					t.Fatal(x, water, sizes, e)
				}
				if e == api.OK && (!slices.Equal(many, l) || then != at) {
					t.Fatal(x, water, sizes, many, then)
				}
			})
		}
	}
}

// TestFollowsTypes: P10.6, objects of all types, one behind the other until there is no room; smaller ones fit behind a greater one that does not.
func TestFollowsTypes(t *testing.T) {
	for _, x := range []api.Extent{ext(0, 512), ext(37, 700), ext(space-300, 300)} {
		l, at, left := []api.Extent{}, 0, 0
		for round := 0; left < 10; round++ {
			size, e := Size(1+round%5, 32)
			if e != api.OK {
				t.Fatal(round, e)
			}
			a, next, e := Carve(x, at, size)
			if e != api.OK {
				left++
				continue
			}
			l, at = append(l, a), next
		}
		follows(t, x, 0, l, at)
		if len(l) < 5 {
			t.Error(x, l)
		}
	}
}

package handle

import (
	"math"
	"slices"
	"testing"

	"garrison/api"
)

// ends are numbers at the ends of int, and such as are small again if bits of them are lost.
var ends = []int{math.MinInt, math.MinInt + 1, math.MaxInt, math.MaxInt - 1, 1 << 31, -1 << 31, 1 << 32, 1<<32 + 1, -1 << 32, 1 << 58, -1 << 58, 1 << 62, -1 << 62}

// noGens are generations of a place that is used no more: Retired, and all that are like it.
var noGens = append([]int{api.Retired, -2, -64, -4095, -4096, 4096, 4097, 8191, 8192, 65536}, ends...)

const filling = 99

// roomy has the numbers of l, and room behind them that is filled.
func roomy(l ...int) []int {
	long := make([]int, len(l)+80)
	for i := range long {
		long[i] = filling
	}
	copy(long, l)
	return long[:len(l)]
}

// untouched says whether a list that roomy made is still l, and its room too.
func untouched(r []int, l ...int) bool {
	return slices.Equal(r, l) && slices.Equal(r[:cap(r)], roomy(l...)[:cap(r)])
}

// spoil writes to all of a list, and to its room.
func spoil(l []int) {
	l = l[:cap(l)]
	for i := range l {
		l[i] = -7
	}
}

// same is n places of one generation.
func same(n, gen int) []int {
	l := make([]int, n)
	for i := range l {
		l[i] = gen
	}
	return l
}

// mixed is n places, of which each has another generation (and none is retired).
func mixed(n int) []int {
	l := make([]int, n)
	for i := range l {
		l[i] = (i*61 + 7) % 4096
	}
	return l
}

// TestPut: P8.1, all that may be, counted up: h is one more than that of the place ahead.
func TestPut(t *testing.T) {
	want := int64(0)
	for gen := range 4096 {
		for obj := range 64 {
			if h, e := Put(obj, gen); h != want || e != api.OK {
				t.Fatal(obj, gen, h, e)
			}
			if o, g, e := Parse(want); o != obj || g != gen || e != api.OK {
				t.Fatal(want, o, g, e)
			}
			want++
		}
	}
	if want != 262144 {
		t.Fatal(want)
	}
}

// TestPutWritten: P8.1, written out one by one.
func TestPutWritten(t *testing.T) {
	cases := []struct {
		obj, gen int
		h        int64
	}{
		{0, 0, 0}, {1, 0, 1}, {63, 0, 63}, {0, 1, 64}, {63, 1, 127}, {2, 3, 194},
		{0, 4094, 262016}, {63, 4094, 262079}, {0, 4095, 262080}, {1, 4095, 262081}, {62, 4095, 262142}, {63, 4095, 262143},
	}
	for _, c := range cases {
		if h, e := Put(c.obj, c.gen); h != c.h || e != api.OK {
			t.Error(c, h, e)
		}
		if o, g, e := Parse(c.h); o != c.obj || g != c.gen || e != api.OK {
			t.Error(c, o, g, e)
		}
	}
}

// TestPutWrong: P8.1, an obj or a gen that may not be, and both of them.
func TestPutWrong(t *testing.T) {
	noObjs := append([]int{-1, -2, -63, -64, 64, 65, 127, 128, 4096}, ends...)
	objs := append([]int{0, 1, 62, 63}, noObjs...)
	gens := append([]int{0, 1, 4094, 4095}, noGens...)
	for _, obj := range objs {
		for _, gen := range gens {
			if !slices.Contains(noObjs, obj) && !slices.Contains(noGens, gen) {
				continue
			}
			if h, e := Put(obj, gen); h != 0 || e != api.ErrArg {
				t.Error(obj, gen, h, e)
			}
		}
	}
}

// noHandles are below the least handle, and above the greatest one.
var noHandles = []int64{-1, -2, -63, -64, -65, -194, -262143, -262144, -262145, 262144, 262145, 262207, 262208, 1 << 19, 1 << 24,
	1 << 31, 1<<32 + 194, -1 << 31, -1<<32 + 194, 1<<38 + 194, 1 << 62, -1 << 62, 1<<62 + 194,
	math.MaxInt64, math.MaxInt64 - 1, math.MinInt64, math.MinInt64 + 1, math.MinInt64 + 194}

// TestParseWrong: P8.1, numbers that are no handle.
func TestParseWrong(t *testing.T) {
	for _, h := range noHandles {
		if o, g, e := Parse(h); o != 0 || g != 0 || e != api.ErrArg {
			t.Error(h, o, g, e)
		}
	}
	for h := int64(1); h <= 100000; h++ {
		if _, _, e := Parse(-h); e != api.ErrArg {
			t.Fatal(-h, e)
		}
		if _, _, e := Parse(262143 + h); e != api.ErrArg {
			t.Fatal(262143+h, e)
		}
	}
}

// TestNext: P8.2.
func TestNext(t *testing.T) {
	for gen := range 4095 {
		if n := Next(gen); n != gen+1 {
			t.Fatal(gen, n)
		}
	}
	for _, c := range [][2]int{{0, 1}, {4093, 4094}, {4094, 4095}, {4095, -1}, {4096, -1}, {-1, -1}, {-2, -1}} {
		if n := Next(c[0]); n != c[1] {
			t.Error(c, n)
		}
	}
	for _, gen := range noGens {
		if n := Next(gen); n != api.Retired {
			t.Error(gen, n)
		}
	}
}

// of is what the document says of Of: there are at most 64 places.
func of(gens []int, obj int) (int64, api.Errno) {
	for at, gen := range gens[:min(64, len(gens))] {
		switch {
		case at != obj:
		case gen < 0 || gen > 4095:
			return 0, api.ErrGone
		default:
			return int64(64*gen + obj), api.OK
		}
	}
	return 0, api.ErrArg
}

// someGens are lists of no place, of one, of some, of 64, and of more.
func someGens() [][]int {
	all := [][]int{nil, {}, {0}, {4094}, {4095}, {0, 0, 3}, {0, api.Retired, 3}, {5, 6, 7, 8}}
	for _, gen := range noGens {
		all = append(all, []int{gen}, []int{1, gen, 4095}, []int{gen, gen, 2})
	}
	for _, n := range []int{2, 63, 64} {
		last := mixed(n)
		last[n-1] = api.Retired
		all = append(all, mixed(n), last, same(n, 0), same(n, 4095), same(n, api.Retired))
	}
	for _, n := range []int{65, 66, 200} {
		all = append(all, mixed(n), same(n, 0), same(n, 4095))
	}
	return all
}

// someObjs are the places of gens, and what is ahead of them and behind.
func someObjs(gens []int) []int {
	l := append([]int{-1, -2, -64, 64, 65, 128, 4096}, ends...)
	for obj := range len(gens) + 3 {
		l = append(l, obj)
	}
	return l
}

// TestOf: P8.3, each place of each list, and places that are none.
func TestOf(t *testing.T) {
	for _, gens := range someGens() {
		for _, obj := range someObjs(gens) {
			want, wantE := of(gens, obj)
			if h, e := Of(gens, obj); h != want || e != wantE {
				t.Error(gens, obj, h, e)
			}
		}
	}
}

// TestOfWritten: P8.3, written out one by one.
func TestOfWritten(t *testing.T) {
	cases := []struct {
		gens []int
		obj  int
		h    int64
		e    api.Errno
	}{
		{nil, 0, 0, api.ErrArg},
		{[]int{}, 0, 0, api.ErrArg},
		{[]int{0}, 0, 0, api.OK},
		{[]int{0}, 1, 0, api.ErrArg},
		{[]int{0}, -1, 0, api.ErrArg},
		{[]int{4095}, 0, 262080, api.OK},
		{[]int{4096}, 0, 0, api.ErrGone},
		{[]int{-1}, 0, 0, api.ErrGone},
		{[]int{-1}, 1, 0, api.ErrArg},
		{[]int{-2}, 0, 0, api.ErrGone},
		{[]int{0, 0, 3}, 2, 194, api.OK},
		{[]int{0, 0, 3}, 3, 0, api.ErrArg},
		{same(64, 1), 63, 127, api.OK},
		{same(64, 1), 64, 0, api.ErrArg},
		{same(65, 1), 63, 127, api.OK},
		{same(65, 1), 64, 0, api.ErrArg},
		{same(64, 4095), 63, 262143, api.OK},
	}
	for _, c := range cases {
		if h, e := Of(c.gens, c.obj); h != c.h || e != c.e {
			t.Error(c, h, e)
		}
	}
}

// TestBehindLast: P8.3, there is no place behind the 64th, and so none that is retired.
func TestBehindLast(t *testing.T) {
	for _, gen := range append([]int{0, 4095}, noGens...) {
		gens := same(70, gen)
		for obj := 64; obj < 70; obj++ {
			if h, e := Of(gens, obj); h != 0 || e != api.ErrArg {
				t.Error(gen, obj, h, e)
			}
			if l, e := Bump(gens, obj); !slices.Equal(l, gens) || e != api.ErrArg {
				t.Error(gen, obj, l, e)
			}
		}
	}
}

// TestIs: P8.3, h is a handle only if it is one of those that Of answers.
func TestIs(t *testing.T) {
	for _, gens := range someGens() {
		var good []int64
		for obj := range gens {
			if h, e := of(gens, obj); e == api.OK {
				good = append(good, h)
			}
		}
		ask := slices.Concat(noHandles, good, []int64{0, 1, 2, 63, 64, 65, 194, 262079, 262080, 262081, 262142, 262143})
		for _, h := range good {
			ask = append(ask, h-1, h+1, h-64, h+64, h+262144, h-262144, h+1<<32, h+math.MinInt64)
		}
		for _, h := range ask {
			if is := Is(gens, h); is != slices.Contains(good, h) {
				t.Error(gens, h, is)
			}
		}
	}
}

// TestIsAll: P8.3, of all handles those of the places' generations alone.
func TestIsAll(t *testing.T) {
	gens := mixed(64)
	gens[5], gens[63] = api.Retired, 4095
	for h := int64(-300); h < 262144+300; h++ {
		want := h >= 0 && h < 262144 && int64(gens[h&63]) == h>>6
		if Is(gens, h) != want {
			t.Fatal(h, want)
		}
	}
}

// TestIsWritten: P8.3, written out one by one.
func TestIsWritten(t *testing.T) {
	cases := []struct {
		gens []int
		h    int64
		want bool
	}{
		{nil, 0, false},
		{[]int{}, 0, false},
		{[]int{api.Retired}, 0, false},
		{[]int{4096}, 0, false},
		{[]int{4096}, 262144, false},
		{[]int{api.Retired}, -64, false},
		{[]int{0}, 0, true},
		{[]int{0}, 1, false},
		{[]int{0}, 64, false},
		{[]int{1}, 0, false},
		{[]int{1}, 64, true},
		{[]int{0, 0, 3}, 194, true},
		{[]int{0, 0, 4}, 194, false},
		{[]int{0, 0}, 194, false},
		{same(64, 4095), 262143, true},
		{same(65, 4095), 262143, true},
		{same(65, 4095), 262144, false},
		{same(65, 0), 64, false},
		{same(63, 4095), 262143, false},
	}
	for _, c := range cases {
		if is := Is(c.gens, c.h); is != c.want {
			t.Error(c, is)
		}
	}
}

// TestBump: P8.3, each place of each list: one generation is another one, all else is as it was.
func TestBump(t *testing.T) {
	for _, gens := range someGens() {
		for _, obj := range someObjs(gens) {
			_, wantE := of(gens, obj)
			want := slices.Clone(gens)
			if wantE == api.OK {
				want[obj]++
				if want[obj] == 4096 {
					want[obj] = -1
				}
			}
			if l, e := Bump(gens, obj); !slices.Equal(l, want) || e != wantE {
				t.Error(gens, obj, l, e)
			}
		}
	}
}

// TestBumpWritten: P8.3, written out one by one; with an error gens are answered too.
func TestBumpWritten(t *testing.T) {
	cases := []struct {
		gens []int
		obj  int
		want []int
		e    api.Errno
	}{
		{nil, 0, nil, api.ErrArg},
		{[]int{}, 0, nil, api.ErrArg},
		{[]int{7}, 0, []int{8}, api.OK},
		{[]int{7}, 1, []int{7}, api.ErrArg},
		{[]int{7}, -1, []int{7}, api.ErrArg},
		{[]int{0, 0, 3}, 2, []int{0, 0, 4}, api.OK},
		{[]int{0, 0, 3}, 3, []int{0, 0, 3}, api.ErrArg},
		{[]int{4094}, 0, []int{4095}, api.OK},
		{[]int{4095}, 0, []int{-1}, api.OK},
		{[]int{-1}, 0, []int{-1}, api.ErrGone},
		{[]int{4096}, 0, []int{4096}, api.ErrGone},
		{[]int{-2, 1}, 0, []int{-2, 1}, api.ErrGone},
		{[]int{-2, 1}, 1, []int{-2, 2}, api.OK},
		{[]int{-2, 1}, 2, []int{-2, 1}, api.ErrArg},
		{[]int{1, 5000, -9}, 0, []int{2, 5000, -9}, api.OK},
	}
	for _, c := range cases {
		if l, e := Bump(c.gens, c.obj); !slices.Equal(l, c.want) || e != c.e {
			t.Error(c, l, e)
		}
	}
	for _, n := range []int{64, 65} {
		want := same(n, 4)
		want[63] = 5
		if l, e := Bump(same(n, 4), 63); !slices.Equal(l, want) || e != api.OK {
			t.Error(n, l, e)
		}
		if l, e := Bump(same(n, 4), 64); !slices.Equal(l, same(n, 4)) || e != api.ErrArg {
			t.Error(n, l, e)
		}
	}
}

// TestNotChanged: lists that are handed in stay as they are, and so does their room.
func TestNotChanged(t *testing.T) {
	for _, gens := range someGens() {
		for _, obj := range someObjs(gens) {
			r := roomy(gens...)
			Of(r, obj)
			Is(r, int64(obj))
			Bump(r, obj)
			if !untouched(r, gens...) {
				t.Fatal(gens, obj, r)
			}
		}
	}
}

// TestApart: what Bump answers shares nothing with what it was handed, nor with another answer, room too, with an error neither.
func TestApart(t *testing.T) {
	for _, gens := range someGens() {
		for _, obj := range someObjs(gens) {
			r := roomy(gens...)
			a, _ := Bump(r, obj)
			b, _ := Bump(r, obj)
			want := slices.Clone(a)
			spoil(b)
			if !slices.Equal(a, want) || !untouched(r, gens...) {
				t.Fatal("b is shared", gens, obj, a, r)
			}
			spoil(r)
			if !slices.Equal(a, want) {
				t.Fatal("r is shared", gens, obj, a)
			}
			if _ = append(a, 1); !slices.Equal(r[:cap(r)], same(cap(r), -7)) {
				t.Fatal("room is shared", gens, obj)
			}
		}
	}
}

// TestNotKept: an answer hangs on the list as it is now, not as it was.
func TestNotKept(t *testing.T) {
	gens := []int{0, 0, 3}
	if !Is(gens, 194) {
		t.Fatal(gens)
	}
	gens[2] = 4
	if h, e := Of(gens, 2); Is(gens, 194) || h != 258 || e != api.OK {
		t.Fatal(gens, h, e)
	}
	gens[2] = 3
	if !Is(gens, 194) {
		t.Fatal(gens)
	}
}

// TestNeverAgain: P8.4, a place from its first generation on until it is retired: no handle comes twice, none of old is one, those of others stay.
func TestNeverAgain(t *testing.T) {
	gens := []int{0, 17, 0, 4095}
	others := []int64{17*64 + 1, 2, 4095*64 + 3}
	seen := map[int64]bool{}
	for range 4096 {
		h, e := Of(gens, 0)
		if e != api.OK || seen[h] || !Is(gens, h) {
			t.Fatal(gens, h, e)
		}
		seen[h] = true
		if gens, e = Bump(gens, 0); e != api.OK || Is(gens, h) || Is(gens, 0) {
			t.Fatal(gens, h, e)
		}
		for _, o := range others {
			if !Is(gens, o) {
				t.Fatal(gens, o)
			}
		}
	}
	for range 5 {
		if _, e := Of(gens, 0); e != api.ErrGone {
			t.Fatal(gens, e)
		}
		l, e := Bump(gens, 0)
		if e != api.ErrGone || !slices.Equal(l, []int{api.Retired, 17, 0, 4095}) {
			t.Fatal(l, e)
		}
		gens = l
	}
	for h := range seen {
		if Is(gens, h) {
			t.Fatal(gens, h)
		}
	}
}

// TestNeverAgainMany: P8.4, places that are used turn by turn, near their end: what was a handle and was bumped is none at any later time.
func TestNeverAgainMany(t *testing.T) {
	for _, n := range []int{1, 2, 5, 64} {
		gens := make([]int, n)
		for i := range gens {
			gens[i] = 4095 - i%5
		}
		gone := map[int64]bool{}
		for turn := range 20 * n {
			obj := turn * 7 % n
			live := map[int64]bool{}
			for at := range gens {
				if h, e := Of(gens, at); e == api.OK {
					live[h] = true
				}
			}
			old, e := Of(gens, obj)
			next, bumped := Bump(gens, obj)
			if bumped != e {
				t.Fatal(gens, obj, e, bumped)
			}
			if e == api.OK {
				gone[old] = true
				delete(live, old)
			}
			for h := range live {
				if !Is(next, h) {
					t.Fatal("a handle of another place is none", gens, obj, h)
				}
			}
			for h := range gone {
				if Is(next, h) {
					t.Fatal("a handle of old is one", next, h)
				}
			}
			gens = next
		}
		if !slices.Equal(gens, same(n, api.Retired)) {
			t.Fatal(gens)
		}
	}
}

// TestStaysOthers: P8.4, a Bump of each of 64 places, each of the 63 others keeps its handle.
func TestStaysOthers(t *testing.T) {
	gens := mixed(64)
	for obj := range gens {
		next, e := Bump(gens, obj)
		if e != api.OK {
			t.Fatal(obj, e)
		}
		for other, gen := range gens {
			if Is(next, int64(64*gen+other)) != (other != obj) {
				t.Fatal(obj, other)
			}
		}
	}
}

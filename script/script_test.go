package script

import (
	"garrison/api"
	"math"
	"slices"
	"strings"
	"testing"
)

// Numbers of cores that are none.
var noCounts = []int{0, -1, api.MaxCores + 1, -64, 1 << 32, 1<<32 | 1, math.MaxInt, math.MinInt}

// Numbers that are no pick, however many cores there are.
var noPicks = []int{-1, api.MaxCores, api.MaxCores + 1, -64, 1 << 32, 1<<32 | 1, math.MaxInt, math.MinInt}

// lists are all lists of at most most elements, each of which is 0 to n - 1.
func lists(n, most int) [][]int {
	all := [][]int{nil}
	for from := 0; most > 0; most-- {
		end := len(all)
		for ; from < end; from++ {
			for core := 0; core < n; core++ {
				all = append(all, append(slices.Clone(all[from]), core))
			}
		}
	}
	return all
}

// roomy has the elements of l, and room behind them that is filled with 9.
func roomy(l ...int) []int {
	long := make([]int, len(l)+40)
	for i := range long {
		long[i] = 9
	}
	copy(long, l)
	return long[:len(l)]
}

// untouched says whether a list that roomy made is still l, and its room too.
func untouched(r []int, l ...int) bool {
	return slices.Equal(r, l) && slices.Equal(r[:cap(r)], roomy(l...)[:cap(r)])
}

// fair is what the document says of Fair, piece by piece.
func fair(l []int, n, w int) bool {
	if w < 1 {
		return false
	}
	for from := 0; w <= len(l) && from <= len(l)-w; from++ {
		for core := 0; core < n; core++ {
			if !slices.Contains(l[from:from+w], core) {
				return false
			}
		}
	}
	return true
}

// window is what the document says of Window: the least that is fair.
func window(l []int, n int) int {
	w := 1
	for !fair(l, n, w) {
		w++
	}
	return w
}

// TestCheck: P5.1, all counts of cores, and each pick at each place.
func TestCheck(t *testing.T) {
	for n := 1; n <= api.MaxCores; n++ {
		if Check(nil, n) != api.OK || Check([]int{}, n) != api.OK {
			t.Fatal(n)
		}
		for pick := -2; pick <= api.MaxCores+1; pick++ {
			want := api.ErrArg
			if 0 <= pick && pick <= n-1 {
				want = api.OK
			}
			for _, l := range [][]int{{pick}, {pick, 0}, {0, pick}, {n - 1, pick, 0}, {0, n - 1, 0, pick}} {
				if e := Check(l, n); e != want {
					t.Fatal(l, n, e)
				}
			}
		}
		for _, pick := range noPicks {
			if e := Check([]int{0, pick, n - 1}, n); e != api.ErrArg {
				t.Fatal(pick, n, e)
			}
		}
	}
}

// TestCheckCounts: P5.1, counts that are none, whatever the list is.
func TestCheckCounts(t *testing.T) {
	for _, n := range noCounts {
		for _, l := range [][]int{nil, {}, {0}, {0, 1, 1}, {n - 1}, {-1}} {
			if e := Check(l, n); e != api.ErrArg {
				t.Fatal(l, n, e)
			}
		}
	}
}

// TestPut: P5.2, texts as the document writes them.
func TestPut(t *testing.T) {
	for _, c := range []struct {
		l []int
		s string
	}{
		{nil, ""}, {[]int{}, ""}, {[]int{0}, "0"}, {[]int{9}, "9"}, {[]int{10}, "10"}, {[]int{63}, "63"},
		{[]int{0, 1, 1}, "0 1 1"}, {[]int{0, 0}, "0 0"}, {[]int{10, 11}, "10 11"},
		{[]int{9, 10, 63, 0, 7}, "9 10 63 0 7"}, {[]int{63, 62, 20, 2}, "63 62 20 2"},
	} {
		if s := Put(c.l); s != c.s {
			t.Fatal(c.l, s)
		}
		if l, e := Parse(c.s); e != api.OK || !slices.Equal(l, c.l) {
			t.Fatal(c.s, l, e)
		}
	}
	for _, pick := range noPicks {
		for _, l := range [][]int{{pick}, {pick, 0}, {0, pick}, {0, 1, pick, 1}} {
			if s := Put(l); s != "" {
				t.Fatal(l, s)
			}
		}
	}
}

// TestParseWrong: P5.2, texts that are no script's.
func TestParseWrong(t *testing.T) {
	for _, s := range []string{
		"00", "01", "007", "1 00", "1 01 1", "063", "010",
		"+1", "-1", "-0", "+0", "0 +1", "0 -1", "1-", "1+", "--1",
		"0  1", "0   1", "  ", " ", " 0", "0 ", "0 1 ", " 0 1", "  0", "0  ", "0 1  1",
		"64", "65", "99", "100", "0 64", "64 0", "128", "256", "640", "1000",
		"4294967296", "4294967297", "9223372036854775807", "9223372036854775808", "18446744073709551616", "18446744073709551617",
		strings.Repeat("1", 100), strings.Repeat("0", 100), "0 " + strings.Repeat("9", 5000), strings.Repeat("1", 5000) + " 0",
		"x", "0 x", "x 0", "0x1", "0b1", "0o1", "1_0", "1e1", "1.0", "1,1", "0,1", "0;1", "a",
		"0\t1", "0\n1", "0\n", "\n", "\t0", "0\x00", "\x00", "0\u00a01", "\u0661", "\uff11", "\xff", "0 \xff", "0\r\n1", "0\v1",
	} {
		if l, e := Parse(s); e != api.ErrArg || len(l) != 0 {
			t.Fatal([]byte(s), l, e)
		}
	}
}

// TestParseShort: P5.2, all texts of at most 4 signs: one is taken if it is a script's that was written down here.
func TestParseShort(t *testing.T) {
	known := map[string][]int{"": nil}
	for _, l := range lists(api.MaxCores, 2) {
		known[Put(l)] = l
	}
	signs := "0123456789 -+x"
	texts := []string{""}
	for from := 0; len(texts[from]) < 4; from++ {
		for i := range signs {
			texts = append(texts, texts[from]+signs[i:i+1])
		}
	}
	for _, s := range texts {
		l, e := Parse(s)
		want, ok := known[s]
		if ok && (e != api.OK || !slices.Equal(l, want)) {
			t.Fatal(s, l, e)
		}
		if !ok && (e != api.ErrArg || len(l) != 0) {
			t.Fatal(s, l, e)
		}
	}
}

// TestThereAndBack: P5.6, each list of two picks, and all short ones of some cores; a long one.
func TestThereAndBack(t *testing.T) {
	all := append(lists(api.MaxCores, 2), lists(4, 6)...)
	all = append(all, Rounds(api.MaxCores, 10000))
	texts := map[string]int{}
	for i, l := range all {
		s := Put(l)
		back, e := Parse(s)
		if e != api.OK || !slices.Equal(back, l) {
			t.Fatal(i, s, e)
		}
		if first, ok := texts[s]; ok && !slices.Equal(all[first], l) {
			t.Fatal("two scripts have one text", s)
		}
		texts[s] = i
	}
}

// TestRounds: P5.3, the picks one by one, and the edges of n and k.
func TestRounds(t *testing.T) {
	for _, n := range []int{1, 2, 3, 10, 63, api.MaxCores} {
		for _, k := range []int{1, 2, 3, 100, 9999, 10000} {
			l := Rounds(n, k)
			if len(l) != n*k {
				t.Fatal(n, k, len(l))
			}
			for i, pick := range l {
				if pick != i%n {
					t.Fatal(n, k, i, pick)
				}
			}
		}
	}
	if !slices.Equal(Rounds(1, 1), []int{0}) || !slices.Equal(Rounds(3, 2), []int{0, 1, 2, 0, 1, 2}) {
		t.Fatal(Rounds(1, 1), Rounds(3, 2))
	}
}

// TestRoundsWrong: P5.3, numbers of cores and of rounds that are none.
func TestRoundsWrong(t *testing.T) {
	noRounds := []int{0, -1, 10001, 10002, -10000, 1 << 32, 1<<32 | 1, math.MaxInt, math.MinInt}
	for _, k := range append([]int{1, 2, 10000}, noRounds...) {
		for _, n := range noCounts {
			if l := Rounds(n, k); len(l) != 0 {
				t.Fatal(n, k, len(l))
			}
		}
	}
	for _, k := range noRounds {
		for _, n := range []int{1, 2, api.MaxCores} {
			if l := Rounds(n, k); len(l) != 0 {
				t.Fatal(n, k, len(l))
			}
		}
	}
}

// TestCount: P5.3.
func TestCount(t *testing.T) {
	l := []int{0, 1, 1, 5, 0, 1, 63, -1, 64}
	for core, want := range map[int]int{0: 2, 1: 3, 5: 1, 63: 1, 2: 0, -1: 1, 64: 1, -2: 0, 65: 0, math.MaxInt: 0, math.MinInt: 0, 1 << 32: 0} {
		if got := Count(l, core); got != want {
			t.Fatal(core, got)
		}
		if Count(nil, core) != 0 || Count([]int{}, core) != 0 {
			t.Fatal(core)
		}
	}
	for core := 0; core < api.MaxCores; core++ {
		if got := Count(Rounds(api.MaxCores, 100), core); got != 100 {
			t.Fatal(core, got)
		}
	}
}

// TestFill: P5.3, what was there, and rounds behind it; none behind it, where there are no rounds.
func TestFill(t *testing.T) {
	for _, l := range [][]int{nil, {}, {0}, {0, 1, 1}, {63, 7}, {-1, 64, math.MaxInt}} {
		for _, n := range append([]int{1, 2, 3, api.MaxCores}, noCounts...) {
			for _, k := range []int{1, 2, 100, 10000, 0, -1, 10001, math.MaxInt, math.MinInt} {
				want := append(slices.Clone(l), Rounds(n, k)...)
				if got := Fill(l, n, k); !slices.Equal(got, want) {
					t.Fatal(l, n, k, len(got))
				}
			}
		}
	}
	if got := Fill(nil, 2, 2); !slices.Equal(got, []int{0, 1, 0, 1}) {
		t.Fatal(got)
	}
	if got := Fill([]int{0, 1, 1}, 3, 1); !slices.Equal(got, []int{0, 1, 1, 0, 1, 2}) {
		t.Fatal(got)
	}
	if got := Fill([]int{0, 1, 1}, 0, 1); !slices.Equal(got, []int{0, 1, 1}) {
		t.Fatal(got)
	}
}

// TestFairExamples: P5.4, the document's example and edges that it names.
func TestFairExamples(t *testing.T) {
	l := []int{0, 1, 1}
	for w, want := range map[int]bool{math.MinInt: false, -2: false, -1: false, 0: false, 1: false, 2: false, 3: true, 4: true, 5: true, math.MaxInt: true} {
		if Fair(l, 2, w) != want {
			t.Fatal(w)
		}
	}
	if Window(l, 2) != 3 || Window(l, 3) != 4 || Window(l, 1) != 3 {
		t.Fatal(Window(l, 2), Window(l, 3), Window(l, 1))
	}
	if Fair(l, 3, 3) || !Fair(l, 3, 4) {
		t.Fatal("a core is never picked: only a list that is shorter than w is fair")
	}
	for _, empty := range [][]int{nil, {}} {
		for _, n := range []int{1, 2, api.MaxCores, api.MaxCores + 1, 0, -1, math.MaxInt, math.MinInt} {
			if Window(empty, n) != 1 || !Fair(empty, n, 1) || Fair(empty, n, 0) || Fair(empty, n, -1) {
				t.Fatal(n)
			}
		}
	}
	if Window([]int{0, 0, 0}, 1) != 1 || !Fair([]int{0, 0, 0}, 1, 1) {
		t.Fatal("one core")
	}
}

// TestFair: P5.4, all short lists, held against the document's words.
func TestFair(t *testing.T) {
	counts := []int{0, 1, 2, 3, 4, 5, 7, 8, 9, -1, api.MaxCores, api.MaxCores + 1, 1 << 32, math.MaxInt, math.MinInt}
	for _, l := range lists(4, 6) {
		for _, n := range counts {
			for _, w := range []int{1, 2, 3, 4, 5, 6, 7, 8, 0, -1, 1 << 32, math.MaxInt, math.MinInt} {
				if Fair(l, n, w) != fair(l, n, w) {
					t.Fatal(l, n, w)
				}
			}
			if w := Window(l, n); w != window(l, n) {
				t.Fatal(l, n, w)
			}
		}
	}
}

// TestFairLong: P5.4, long gaps at the beginning, in the middle and at the end, and elements that are no core's.
func TestFairLong(t *testing.T) {
	for _, l := range [][]int{
		{1, 1, 1, 1, 0, 1, 0, 1}, {0, 1, 0, 1, 1, 1, 1, 0}, {0, 1, 0, 1, 1, 1, 1}, {1, 0, 0, 0, 0, 0},
		{0, 1, 2, 1, 2, 1, 2}, {2, 1, 2, 1, 2, 1, 0}, {0, 63, 1, -1, 0, 64, 1}, {-1, math.MinInt, math.MaxInt, 0}, {-1, -1}, {64, 64, 64},
		Fill([]int{5, 5, 5}, 6, 3), Fill(Rounds(6, 3), 5, 3), Rounds(api.MaxCores, 3), append(Rounds(3, 4), 0, 0, 1, 2),
		Rounds(5, 1), append(Rounds(4, 1), Rounds(4, 2)...), append([]int{3, 2, 1, 0}, Rounds(4, 2)...),
	} {
		for n := -1; n <= api.MaxCores+2; n++ {
			w := Window(l, n)
			if w != window(l, n) {
				t.Fatal(l, n, w)
			}
			for w := -1; w <= len(l)+2; w++ {
				if Fair(l, n, w) != fair(l, n, w) {
					t.Fatal(l, n, w)
				}
			}
		}
	}
}

// TestRoundsAreFair: P5.5, with n picks, with n alone of those up to n, and what is fair with some is so with more.
func TestRoundsAreFair(t *testing.T) {
	for n := 1; n <= api.MaxCores; n++ {
		for _, k := range []int{1, 2, 3, 50} {
			l := Rounds(n, k)
			for w := 1; w < n; w++ {
				if Fair(l, n, w) {
					t.Fatal(n, k, w)
				}
			}
			for w := n; w <= n*k+2; w++ {
				if !Fair(l, n, w) {
					t.Fatal(n, k, w)
				}
			}
			if w := Window(l, n); w != n {
				t.Fatal(n, k, w)
			}
		}
	}
	for _, l := range lists(3, 6) {
		for n := 0; n <= 4; n++ {
			for w := 1; w <= len(l)+2; w++ {
				if Fair(l, n, w) && !Fair(l, n, w+1) {
					t.Fatal(l, n, w)
				}
			}
		}
	}
}

// TestLongLists: P5.4, a list as long as rounds get ends soon, with a core that is never picked too.
func TestLongLists(t *testing.T) {
	l := Rounds(api.MaxCores, 10000)
	if Window(l, api.MaxCores) != api.MaxCores || !Fair(l, api.MaxCores, api.MaxCores) || Fair(l, api.MaxCores, api.MaxCores-1) {
		t.Fatal(Window(l, api.MaxCores))
	}
	if w := Window(l, api.MaxCores+1); w != len(l)+1 {
		t.Fatal(w)
	}
	if w := Window(l, len(l)); w != len(l)+1 {
		t.Fatal(w)
	}
}

// TestHandedIn: no call changes a list that is handed in, its room neither.
func TestHandedIn(t *testing.T) {
	for _, l := range [][]int{{}, {0}, {0, 1, 1}, {1, 0, 2, 63}, {5, 64, -1}} {
		r := roomy(l...)
		Check(r, 2)
		Put(r)
		Count(r, 1)
		Fair(r, 2, 2)
		Window(r, 2)
		for _, k := range []int{0, 1, 10} {
			Fill(r, 2, k)
			if !untouched(r, l...) {
				t.Fatal(l, r[:cap(r)])
			}
		}
	}
}

// TestHandedOut: lists that are answered share nothing with one another or with those that are handed in.
func TestHandedOut(t *testing.T) {
	spoil := func(l []int) {
		for i := range l[:cap(l)] {
			l[:cap(l)][i] = -7
		}
	}
	spoil(Rounds(3, 2))
	if l := Rounds(3, 2); !slices.Equal(l, []int{0, 1, 2, 0, 1, 2}) {
		t.Fatal(l)
	}
	first, _ := Parse("0 1 1")
	second, _ := Parse("0 1 1")
	spoil(first)
	if third, _ := Parse("0 1 1"); !slices.Equal(second, []int{0, 1, 1}) || !slices.Equal(third, second) {
		t.Fatal(second, third)
	}
	for _, n := range []int{0, 2} {
		for _, k := range []int{0, 1, 3} {
			r := roomy(0, 1, 1)
			filled := Fill(r, n, k)
			kept := slices.Clone(filled)
			spoil(Fill(r, n, k))
			if !untouched(r, 0, 1, 1) || !slices.Equal(filled, kept) {
				t.Fatal(n, k)
			}
			spoil(r)
			if !slices.Equal(filled, kept) {
				t.Fatal(n, k)
			}
		}
	}
}

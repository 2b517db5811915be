package rights

import (
	"garrison/api"
	"math"
	"slices"
	"testing"
)

// Numbers that are no rights: below 0, past All, and those whose low bits look like rights.
var none = []int{-1, -2, -15, -16, 16, 17, 31, 32, 255, 1 << 32, 1<<32 | 5, math.MaxInt, math.MinInt, math.MinInt + 5}

// has tells, without the bits' means, whether r has the one right that is worth the number.
func has(r, worth int) bool {
	return r/worth%2 == 1
}

var four = []int{api.Read, api.Write, api.Grant, api.Control}

// sum makes rights of those of the four for which keep says yes.
func sum(keep func(worth int) bool) int {
	r := 0
	for _, worth := range four {
		if keep(worth) {
			r += worth
		}
	}
	return r
}

// TestNumbers: P2.1, that the four sum up to All.
func TestNumbers(t *testing.T) {
	if !slices.Equal(four, []int{1, 2, 4, 8}) || sum(func(int) bool { return true }) != api.All {
		t.Fatal(four, api.All)
	}
}

// TestIs: P2.1.
func TestIs(t *testing.T) {
	for r := -40; r <= 40; r++ {
		if want := r >= 0 && r <= 15; Is(r) != want {
			t.Errorf("Is(%d) = %v", r, !want)
		}
	}
	for _, r := range none {
		if Is(r) {
			t.Errorf("Is(%d)", r)
		}
	}
}

// TestWithin: P2.1.
func TestWithin(t *testing.T) {
	for a := 0; a <= api.All; a++ {
		for b := 0; b <= api.All; b++ {
			want := true
			for _, worth := range four {
				if has(a, worth) && !has(b, worth) {
					want = false
				}
			}
			if Within(a, b) != want {
				t.Errorf("Within(%d, %d) = %v", a, b, !want)
			}
		}
	}
	for _, n := range none {
		for r := 0; r <= api.All; r++ {
			if Within(n, r) || Within(r, n) {
				t.Errorf("Within with %d and %d", n, r)
			}
		}
		for _, m := range none {
			if Within(n, m) {
				t.Errorf("Within(%d, %d)", n, m)
			}
		}
	}
}

// TestTables: P2.2, by what is written out.
func TestTables(t *testing.T) {
	for _, c := range []struct {
		l          []int
		meet, join int
	}{
		{nil, 15, 0},
		{[]int{}, 15, 0},
		{[]int{0}, 0, 0},
		{[]int{15}, 15, 15},
		{[]int{6}, 6, 6},
		{[]int{6, 6}, 6, 6},
		{[]int{7, 13}, 5, 15},
		{[]int{13, 7}, 5, 15},
		{[]int{1, 2}, 0, 3},
		{[]int{15, 0}, 0, 15},
		{[]int{1, 2, 4, 8}, 0, 15},
		{[]int{14, 13, 15, 12}, 12, 15},
		{[]int{8, 8, 9, 8, 8}, 8, 9},
	} {
		kept := slices.Clone(c.l)
		if m, e := Meet(c.l...); m != c.meet || e != api.OK {
			t.Errorf("Meet(%v) = %d, %d", c.l, m, e)
		}
		if j, e := Join(c.l...); j != c.join || e != api.OK {
			t.Errorf("Join(%v) = %d, %d", c.l, j, e)
		}
		if !slices.Equal(kept, c.l) {
			t.Errorf("%v was changed into %v", kept, c.l)
		}
	}
	for _, c := range [][3]int{{7, 2, 5}, {15, 0, 15}, {0, 15, 0}, {15, 15, 0}, {5, 10, 5}, {6, 12, 2}, {0, 0, 0}} {
		if l, e := Less(c[0], c[1]); l != c[2] || e != api.OK {
			t.Errorf("Less(%d, %d) = %d, %d", c[0], c[1], l, e)
		}
	}
}

// TestAll: P2.2, with all threes of rights.
func TestAll(t *testing.T) {
	for a := 0; a <= api.All; a++ {
		for b := 0; b <= api.All; b++ {
			if l, e := Less(a, b); e != api.OK || l != sum(func(w int) bool { return has(a, w) && !has(b, w) }) {
				t.Errorf("Less(%d, %d) = %d, %d", a, b, l, e)
			}
			for c := 0; c <= api.All; c++ {
				if m, e := Meet(a, b, c); e != api.OK || m != sum(func(w int) bool { return has(a, w) && has(b, w) && has(c, w) }) {
					t.Errorf("Meet(%d, %d, %d) = %d, %d", a, b, c, m, e)
				}
				if j, e := Join(a, b, c); e != api.OK || j != sum(func(w int) bool { return has(a, w) || has(b, w) || has(c, w) }) {
					t.Errorf("Join(%d, %d, %d) = %d, %d", a, b, c, j, e)
				}
			}
		}
	}
}

// TestMany: P2.2, of a long list, of which one alone makes the difference.
func TestMany(t *testing.T) {
	for at := range 1000 {
		l := slices.Repeat([]int{7}, 1000)
		l[at] = 13
		if m, e := Meet(l...); m != 5 || e != api.OK {
			t.Fatal(at, m, e)
		}
		if j, e := Join(l...); j != 15 || e != api.OK {
			t.Fatal(at, j, e)
		}
	}
}

// TestNone: P2.2, that one that is no rights is refused wherever it stands.
func TestNone(t *testing.T) {
	refused := func(what string, l []int, r int, e api.Errno) {
		if r != 0 || e != api.ErrRights {
			t.Errorf("%s(%v) = %d, %d", what, l, r, e)
		}
	}
	for _, n := range none {
		for _, l := range [][]int{{n}, {n, 0}, {0, n}, {15, n}, {n, 15}, {0, n, 15}, {15, n, 0}, {5, 5, n}, {n, 5, 5}, {n, n}, {n, -1}, {16, n}} {
			m, e := Meet(l...)
			refused("Meet", l, m, e)
			j, e := Join(l...)
			refused("Join", l, j, e)
		}
		for r := 0; r <= api.All; r++ {
			a, e := Less(n, r)
			refused("Less", []int{n, r}, a, e)
			b, e := Less(r, n)
			refused("Less", []int{r, n}, b, e)
		}
		for _, m := range none {
			l, e := Less(n, m)
			refused("Less", []int{n, m}, l, e)
		}
	}
}

// TestText: P2.3.
func TestText(t *testing.T) {
	texts := []string{
		"----", "r---", "-w--", "rw--", "--g-", "r-g-", "-wg-", "rwg-",
		"---c", "r--c", "-w-c", "rw-c", "--gc", "r-gc", "-wgc", "rwgc",
	}
	for r, want := range texts {
		if s := Text(r); s != want {
			t.Errorf("Text(%d) = %q", r, s)
		}
		if p, e := Parse(want); p != r || e != api.OK {
			t.Errorf("Parse(%q) = %d, %d", want, p, e)
		}
	}
	for _, r := range none {
		if s := Text(r); s != "" {
			t.Errorf("Text(%d) = %q", r, s)
		}
	}
}

// TestParseNone: P2.3, texts that are those of no rights.
func TestParseNone(t *testing.T) {
	for _, s := range []string{
		"", "-", "r", "rwg", "---", "-----", "rwgcr", "rwgc-", "-rwgc", "rwgcrwgc", "--------",
		"RWGC", "Rwgc", "rWgc", "rwGc", "rwgC", "R---", "---C",
		"cgwr", "wrgc", "rgwc", "rwcg", "w---", "-r--", "--c-", "---g", "rrrr", "cccc", "r-r-",
		"r-g ", " r-g", "r g-", "rwg\n", "rwg\x00", "\x00\x00\x00\x00", "0101", "rwgx", "xwgc", "r_g-", "r+g-", "    ",
		"\xffwgc", "rw\xffc", "rwg\xff", "\xff\xff\xff\xff", "\xc1\xb2gc",
		"éwg", "rég", "rwé", "éé", "r–", "–c", "€-", "-€", "rwg€", "€wgc", "\U0001f511", "r-g‐", "‐‐‐‐", "ｒｗｇｃ", "\ufffdc", "r\ufffd",
	} {
		if r, e := Parse(s); r != 0 || e != api.ErrRights {
			t.Errorf("Parse(%q) = %d, %d", s, r, e)
		}
	}
}

// TestParseBytes: P2.3, that all texts of four bytes but the sixteen are refused, one byte put astray.
func TestParseBytes(t *testing.T) {
	for r := 0; r <= api.All; r++ {
		for at := range 4 {
			for c := range 256 {
				s := []byte(Text(r))
				s[at] = byte(c)
				want, code := 0, api.ErrRights
				if c == '-' {
					want, code = sum(func(w int) bool { return has(r, w) && w != four[at] }), api.OK
				} else if c == int("rwgc"[at]) {
					want, code = sum(func(w int) bool { return has(r, w) || w == four[at] }), api.OK
				}
				if p, e := Parse(string(s)); p != want || e != code {
					t.Errorf("Parse(%q) = %d, %d", s, p, e)
				}
			}
		}
	}
}

// TestMoreAndLess: P2.4.
func TestMoreAndLess(t *testing.T) {
	for a := 0; a <= api.All; a++ {
		for b := 0; b <= api.All; b++ {
			m, _ := Meet(a, b)
			j, _ := Join(a, b)
			l, _ := Less(a, b)
			if !Within(m, a) || !Within(m, b) || !Within(a, j) || !Within(b, j) {
				t.Error("within", a, b, m, j)
			}
			if shared, e := Meet(l, b); shared != 0 || e != api.OK {
				t.Error("shared", a, b, shared, e)
			}
			if whole, e := Join(l, m); whole != a || e != api.OK {
				t.Error("whole", a, b, whole, e)
			}
		}
	}
}

// TestThereAndBack: P2.5.
func TestThereAndBack(t *testing.T) {
	seen := map[string]bool{}
	for r := 0; r <= api.All; r++ {
		s := Text(r)
		if p, e := Parse(s); p != r || e != api.OK || seen[s] || Text(p) != s {
			t.Error(r, s, p, e)
		}
		seen[s] = true
	}
}

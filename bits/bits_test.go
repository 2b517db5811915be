package bits

import (
	"fmt"
	"math"
	mathbits "math/bits"
	"sort"
	"strings"
	"testing"

	"garrison/api"
)

const allOnes = math.MaxUint64

// words: the edges, each bit alone and left out, and a fixed row of mixed ones.
func words() []uint64 {
	l := []uint64{0, 1, 2, 3, 0x50, 0xa5, 0xff0, 1 << 62, 1 << 63, 1<<63 | 1, 0x0123456789abcdef, 0xfedcba9876543210, 0xaaaaaaaaaaaaaaaa, 0x5555555555555555, allOnes - 1, allOnes}
	for k := range 64 {
		l = append(l, 1<<k, allOnes^1<<k, allOnes>>k, allOnes<<k)
	}
	x := uint64(1)
	for range 100 {
		x = x*6364136223846793005 + 1442695040888963407
		l = append(l, x^x>>29)
	}
	return l
}

type field struct{ at, n int }

// fields: all that may be.
func fields() []field {
	var l []field
	for at := range 64 {
		for n := 1; at+n <= 64; n++ {
			l = append(l, field{at, n})
		}
	}
	return l
}

// noFields: fields that may not be.
func noFields() []field {
	l := []field{
		{0, 0}, {63, 0}, {5, -1}, {0, -64}, {0, 65}, {0, 66}, {0, 128}, {-1, 65},
		{-1, 1}, {-1, 2}, {-1, 64}, {-64, 64}, {-64, 1}, {64, 1}, {64, 0}, {65, 1}, {1000, 4},
		{1, 64}, {2, 63}, {32, 33}, {33, 32}, {60, 5}, {63, 2}, {63, 64},
		{1 << 62, 1 << 62}, {math.MaxInt, 1}, {math.MaxInt, 2}, {math.MaxInt, 64}, {1, math.MaxInt}, {2, math.MaxInt}, {math.MaxInt, math.MaxInt},
		{math.MinInt, 1}, {math.MinInt, 64}, {0, math.MinInt}, {1, math.MinInt}, {math.MinInt, math.MinInt}, {math.MinInt, math.MaxInt}, {math.MaxInt, math.MinInt},
		{1 - math.MaxInt, math.MaxInt}, {math.MaxInt - 63, 64}, {1 << 32, 4}, {4, 1 << 32}, {1<<32 + 4, 4}, {4, 1<<32 + 4},
	}
	for at := range 65 {
		l = append(l, field{at, 65 - at}, field{at, 0}, field{at, -at - 1})
	}
	return l
}

func bitOf(w uint64, k int) bool { return w&(1<<k) != 0 }

// P1.1: bit by bit, for every field that may be.
func TestMaskHasJustTheFieldsBits(t *testing.T) {
	for _, f := range fields() {
		m := Mask(f.at, f.n)
		for k := range 64 {
			if bitOf(m, k) != (k >= f.at && k < f.at+f.n) {
				t.Fatalf("Mask(%d, %d) = %x, bit %d", f.at, f.n, m, k)
			}
		}
	}
}

func TestGetHasTheFieldsBitsFromZeroOn(t *testing.T) {
	for _, w := range words() {
		for _, f := range fields() {
			v := Get(w, f.at, f.n)
			for k := range 64 {
				if bitOf(v, k) != (k < f.n && bitOf(w, (f.at+k)%64)) {
					t.Fatalf("Get(%x, %d, %d) = %x, bit %d", w, f.at, f.n, v, k)
				}
			}
		}
	}
}

func TestFieldsByHand(t *testing.T) {
	for _, c := range []struct {
		w         uint64
		at, n     int
		mask, got uint64
	}{
		{0xa5, 4, 4, 0xf0, 10},
		{0xa5, 0, 4, 0xf, 5},
		{0xa5, 8, 4, 0xf00, 0},
		{allOnes, 0, 64, allOnes, allOnes},
		{0, 0, 64, allOnes, 0},
		{1 << 63, 63, 1, 1 << 63, 1},
		{1 << 63, 0, 63, allOnes >> 1, 0},
		{1<<63 | 1, 1, 63, allOnes - 1, 1 << 62},
		{allOnes, 60, 4, 0xf << 60, 0xf},
		{1, 0, 1, 1, 1},
		{allOnes - 1, 0, 1, 1, 0},
	} {
		if m := Mask(c.at, c.n); m != c.mask {
			t.Errorf("Mask(%d, %d) = %x", c.at, c.n, m)
		}
		if v := Get(c.w, c.at, c.n); v != c.got {
			t.Errorf("Get(%x, %d, %d) = %x", c.w, c.at, c.n, v)
		}
	}
}

func TestFieldsThatMayNotBe(t *testing.T) {
	for _, f := range noFields() {
		if m := Mask(f.at, f.n); m != 0 {
			t.Errorf("Mask(%d, %d) = %x", f.at, f.n, m)
		}
		for _, w := range []uint64{0, 1, 0xa5, 1 << 63, allOnes} {
			if v := Get(w, f.at, f.n); v != 0 {
				t.Errorf("Get(%x, %d, %d) = %x", w, f.at, f.n, v)
			}
			for _, v := range []uint64{0, 1, allOnes} { // ErrArg comes ahead of ErrBits
				if p, e := Put(w, f.at, f.n, v); p != 0 || e != api.ErrArg {
					t.Errorf("Put(%x, %d, %d, %x) = %x, %d", w, f.at, f.n, v, p, e)
				}
			}
		}
	}
}

// P1.2
func TestPutByHand(t *testing.T) {
	for _, c := range []struct {
		w     uint64
		at, n int
		v     uint64
		want  uint64
		e     api.Errno
	}{
		{0, 4, 4, 10, 0xa0, api.OK},
		{1 << 63, 4, 4, 10, 1<<63 | 0xa0, api.OK},
		{0xfff, 4, 4, 0, 0xf0f, api.OK},
		{0xa5, 0, 64, allOnes, allOnes, api.OK},
		{allOnes, 0, 64, 0, 0, api.OK},
		{0, 63, 1, 1, 1 << 63, api.OK},
		{allOnes, 63, 1, 0, allOnes >> 1, api.OK},
		{0, 0, 1, 1, 1, api.OK},
		{0, 1, 63, allOnes >> 1, allOnes - 1, api.OK},
		{0, 4, 4, 16, 0, api.ErrBits},
		{allOnes, 4, 4, 16, 0, api.ErrBits},
		{allOnes, 4, 4, 1 << 63, 0, api.ErrBits},
		{allOnes, 63, 1, 2, 0, api.ErrBits},
		{allOnes, 0, 1, 2, 0, api.ErrBits},
		{allOnes, 0, 63, 1 << 63, 0, api.ErrBits},
		{allOnes, 1, 63, allOnes, 0, api.ErrBits},
	} {
		if w, e := Put(c.w, c.at, c.n, c.v); w != c.want || e != c.e {
			t.Errorf("Put(%x, %d, %d, %x) = %x, %d", c.w, c.at, c.n, c.v, w, e)
		}
	}
}

func TestPutTakesWhatFitsAndNoMore(t *testing.T) {
	for _, f := range fields() {
		top := uint64(allOnes)
		if f.n < 64 {
			top = 1<<f.n - 1
		}
		if _, e := Put(allOnes, f.at, f.n, top); e != api.OK {
			t.Errorf("Put(.., %d, %d, %x): %d", f.at, f.n, top, e)
		}
		if f.n == 64 {
			continue
		}
		for _, v := range []uint64{top + 1, top + 2, 1 << 63, allOnes} {
			if w, e := Put(allOnes, f.at, f.n, v); w != 0 || e != api.ErrBits {
				t.Errorf("Put(.., %d, %d, %x) = %x, %d", f.at, f.n, v, w, e)
			}
		}
	}
}

// P1.3
func TestCountLowHigh(t *testing.T) {
	for _, w := range words() {
		if n := Count(w); n != mathbits.OnesCount64(w) {
			t.Errorf("Count(%x) = %d", w, n)
		}
		low, high, some := 0, 0, w != 0
		if some {
			low, high = mathbits.TrailingZeros64(w), 63-mathbits.LeadingZeros64(w)
		}
		if k, ok := Low(w); k != low || ok != some {
			t.Errorf("Low(%x) = %d, %v", w, k, ok)
		}
		if k, ok := High(w); k != high || ok != some {
			t.Errorf("High(%x) = %d, %v", w, k, ok)
		}
	}
}

func TestNext(t *testing.T) {
	ats := []int{math.MinInt, math.MinInt + 1, -1 << 32, -65, -64, -63, -2, -1, 64, 65, 127, 128, 1 << 32, 1<<32 + 1, math.MaxInt - 1, math.MaxInt}
	for k := range 64 {
		ats = append(ats, k)
	}
	for _, w := range words() {
		for _, at := range ats {
			want, some := 0, false
			for k := 63; k >= 0 && k >= at; k-- {
				if bitOf(w, k) {
					want, some = k, true
				}
			}
			if k, ok := Next(w, at); k != want || ok != some {
				t.Errorf("Next(%x, %d) = %d, %v", w, at, k, ok)
			}
		}
	}
}

func TestBitsByHand(t *testing.T) {
	if Count(0) != 0 || Count(allOnes) != 64 || Count(0xff0) != 8 {
		t.Error("count")
	}
	for _, c := range []struct {
		w    uint64
		at   int
		want int
		ok   bool
	}{
		{0x50, 0, 4, true}, {0x50, 4, 4, true}, {0x50, 5, 6, true}, {0x50, 6, 6, true}, {0x50, 7, 0, false},
		{0x50, -1, 4, true}, {0x50, math.MinInt, 4, true}, {1, -5, 0, true}, {1, 1, 0, false},
		{allOnes, 63, 63, true}, {allOnes, 64, 0, false}, {allOnes, math.MaxInt, 0, false}, {1 << 63, 0, 63, true}, {0, 0, 0, false}, {0, -1, 0, false},
	} {
		if k, ok := Next(c.w, c.at); k != c.want || ok != c.ok {
			t.Errorf("Next(%x, %d) = %d, %v", c.w, c.at, k, ok)
		}
	}
}

// Who stops early is not handed another bit; who begins anew has them all again.
func TestOnesStopsAndBeginsAnew(t *testing.T) {
	l := ones(0x50)
	for range 2 {
		var got []int
		for k := range l {
			got = append(got, k)
		}
		if len(got) != 2 || got[0] != 4 || got[1] != 6 {
			t.Fatal(got)
		}
		for k := range l {
			if k != 4 {
				t.Fatal(k)
			}
			break
		}
	}
}

// P1.4
func TestText(t *testing.T) {
	for w, want := range map[uint64]string{
		0:                  "0000000000000000",
		allOnes:            "ffffffffffffffff",
		0xa5:               "00000000000000a5",
		1 << 63:            "8000000000000000",
		1 << 60:            "1000000000000000",
		0x0123456789abcdef: "0123456789abcdef",
		0xfedcba9876543210: "fedcba9876543210",
	} {
		if s := Text(w); s != want {
			t.Errorf("Text(%x) = %q", w, s)
		}
		if v, e := Parse(want); v != w || e != api.OK {
			t.Errorf("Parse(%q) = %x, %d", want, v, e)
		}
	}
	for _, w := range words() {
		if s := Text(w); s != fmt.Sprintf("%016x", w) {
			t.Errorf("Text(%x) = %q", w, s)
		}
	}
}

func TestParseOfWhatIsNoText(t *testing.T) {
	for _, s := range []string{
		"", "0", "a5", "00000000000000a", "000000000000000", "00000000000000a50", "000000000000000a5", "0000000000000000000000000000000000",
		"00000000000000A5", "F000000000000000", "000000000000000F", "ABCDEFABCDEFABCD",
		"00000000000000a5 ", " 00000000000000a5", "00000000000000a ", " 0000000000000a5", "00000000000000a\n",
		"0x000000000000a5", "0X000000000000a5", "-0000000000000a5", "+0000000000000a5", "0000_0000_0000_a",
		"000000000000000g", "g000000000000000", "000000000000000/", "000000000000000:", "000000000000000`", "000000000000000@",
		"00000000000000é", "000000000000000é", "éééééééé", "００００００００００００００００", "00000000000000\xff0", "\x000000000000000000"[:16],
		strings.Repeat("\x00", 16), strings.Repeat("0", 17), strings.Repeat("f", 1<<16),
	} {
		if w, e := Parse(s); w != 0 || e != api.ErrBits {
			t.Errorf("Parse(%q) = %x, %d", s, w, e)
		}
	}
}

// Every byte, at every place: the sixteen digits are taken, and nothing else.
func TestParseByteByByte(t *testing.T) {
	for i := range 16 {
		for c := range 256 {
			b := []byte("1111111111111111")
			b[i] = byte(c)
			v := strings.IndexByte("0123456789abcdef", byte(c))
			w, e := Parse(string(b))
			if v < 0 {
				if w != 0 || e != api.ErrBits {
					t.Errorf("Parse(%q) = %x, %d", b, w, e)
				}
				continue
			}
			at := 60 - 4*i
			if e != api.OK || w != 0x1111111111111111&^(15<<at)|uint64(v)<<at {
				t.Errorf("Parse(%q) = %x, %d", b, w, e)
			}
		}
	}
}

// P1.5
func TestPutIsGotAndTheRestStays(t *testing.T) {
	l := words()
	for i, w := range l {
		for _, f := range fields() {
			v := l[(i+7)%len(l)] >> (64 - f.n)
			p, e := Put(w, f.at, f.n, v)
			if e != api.OK || Get(p, f.at, f.n) != v {
				t.Fatalf("Put(%x, %d, %d, %x) = %x, %d", w, f.at, f.n, v, p, e)
			}
			for k := range 64 {
				if (k < f.at || k >= f.at+f.n) && bitOf(p, k) != bitOf(w, k) {
					t.Fatalf("Put(%x, %d, %d, %x) = %x: bit %d", w, f.at, f.n, v, p, k)
				}
			}
		}
	}
}

func TestFieldsApartArePutInAnyOrder(t *testing.T) {
	put := func(w uint64, f field, v uint64) uint64 {
		p, e := Put(w, f.at, f.n, v>>(64-f.n))
		if e != api.OK {
			t.Fatal(f, v, e)
		}
		return p
	}
	l := words()
	var some []field // of all lengths, and at all places, but not all pairs
	for i, f := range fields() {
		if i%7 == 0 || f.n == 1 && f.at%9 == 0 || f.at+f.n == 64 {
			some = append(some, f)
		}
	}
	for i, f := range some {
		for j, g := range some {
			if f.at < g.at+g.n && g.at < f.at+f.n {
				continue
			}
			w, a, b := l[(i+j)%len(l)], l[(3*i+1)%len(l)], l[(5*j+2)%len(l)]
			there, back := put(put(w, f, a), g, b), put(put(w, g, b), f, a)
			if there != back || Get(there, f.at, f.n) != a>>(64-f.n) || Get(there, g.at, g.n) != b>>(64-g.n) {
				t.Fatalf("%x: %v %v: %x %x", w, f, g, there, back)
			}
		}
	}
}

// P1.6
func TestThereAndBack(t *testing.T) {
	l := words()
	for _, w := range l {
		if v, e := Parse(Text(w)); v != w || e != api.OK {
			t.Errorf("Parse(Text(%x)) = %x, %d", w, v, e)
		}
	}
	sort.Slice(l, func(i, j int) bool { return l[i] < l[j] })
	for i := 1; i < len(l); i++ {
		a, b := Text(l[i-1]), Text(l[i])
		if (a < b) != (l[i-1] < l[i]) || (a == b) != (l[i-1] == l[i]) {
			t.Errorf("%q %q", a, b)
		}
	}
}

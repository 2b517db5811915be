package cap

import (
	"garrison/api"
	"math"
	"strconv"
	"testing"
)

// What the document says of each Type: its name, and the greatest Badge.
var kinds = []struct {
	number int
	name   string
	badge  int
}{
	{1, "untyped", 0},
	{2, "node", 7},
	{3, "frame", 0},
	{4, "endpoint", 65535},
	{5, "notice", 65535},
}

// Numbers around which something changes, or might: for fields of a capability.
var edges = []int{0, 1, 2, 5, 7, 8, 15, 16, 511, 512, 1022, 1023, 1024, 2047, 2048, 4094, 4095, 4096, 65534, 65535, 65536}

// Numbers that no field may have: below 0, and great ones whose low bits look well.
var never = []int{-1, -2, -8, -16, -65536, 65536, 1 << 20, 1 << 32, 1<<32 | 1, 1<<62 | 1, math.MaxInt, math.MinInt, math.MinInt | 1}

func badgesOf(most int) []int {
	var l []int
	for _, b := range []int{0, 1, 7, 8, 255, 256, 65534, 65535} {
		if b <= most {
			l = append(l, b)
		}
	}
	return l
}

// some are capabilities that may be, none left out: each Type with its edges.
func some() []api.Cap {
	var l []api.Cap
	for _, k := range kinds {
		for r := 0; r <= api.All; r++ {
			for _, b := range badgesOf(k.badge) {
				for _, obj := range []int{0, 1, 512, 1023} {
					for _, gen := range []int{0, 1, 2048, 4095} {
						l = append(l, api.Cap{Type: k.number, Rights: r, Badge: b, Obj: obj, Gen: gen})
					}
				}
			}
		}
	}
	return l
}

// wrong are capabilities that may not be, each with one number that is at fault.
func wrong() []api.Cap {
	l := []api.Cap{{Rights: 1}, {Rights: 15}, {Badge: 1}, {Obj: 1}, {Gen: 1}, {Rights: -1}, {Badge: -1}, {Obj: -1}, {Gen: -1},
		{Type: 6}, {Type: 7}, {Type: 15}, {Type: 16}, {Type: 17}, {Type: 16 + 3, Rights: 1}}
	for _, n := range never {
		l = append(l, api.Cap{Type: n}, api.Cap{Type: n, Rights: 15}, api.Cap{Rights: n}, api.Cap{Badge: n}, api.Cap{Obj: n}, api.Cap{Gen: n})
	}
	for _, k := range kinds {
		c := api.Cap{Type: k.number, Rights: 5, Obj: 3, Gen: 9}
		for _, n := range never {
			l = append(l, with(c, 1, n), with(c, 2, n), with(c, 3, n), with(c, 4, n))
		}
		l = append(l, with(c, 1, 16), with(c, 2, k.badge+1), with(c, 3, 1024), with(c, 4, 4096))
	}
	return l
}

// with is c with another number in one of its fields.
func with(c api.Cap, field, n int) api.Cap {
	switch field {
	case 0:
		c.Type = n
	case 1:
		c.Rights = n
	case 2:
		c.Badge = n
	case 3:
		c.Obj = n
	case 4:
		c.Gen = n
	}
	return c
}

// mayBe says once more what P3.1 says.
func mayBe(c api.Cap) bool {
	if c.Type == 0 {
		return c.Rights == 0 && c.Badge == 0 && c.Obj == 0 && c.Gen == 0
	}
	for _, k := range kinds {
		if k.number == c.Type {
			return c.Rights >= 0 && c.Rights <= 15 && c.Badge >= 0 && c.Badge <= k.badge && c.Obj >= 0 && c.Obj <= 1023 && c.Gen >= 0 && c.Gen <= 4095
		}
	}
	return false
}

// TestCheck: P3.1.
func TestCheck(t *testing.T) {
	if e := Check(api.Cap{}); e != api.OK {
		t.Errorf("none: %v", e)
	}
	for _, c := range some() {
		if e := Check(c); e != api.OK {
			t.Fatalf("%+v: %v", c, e)
		}
	}
	for _, c := range wrong() {
		if e := Check(c); e != api.ErrCap {
			t.Errorf("%+v: %v", c, e)
		}
	}
}

// TestCheckEdges: P3.1, each field of each Type at all edges.
func TestCheckEdges(t *testing.T) {
	for ty := -2; ty <= 20; ty++ {
		for field := 1; field <= 4; field++ {
			for _, n := range append(append([]int{}, edges...), never...) {
				for _, c := range []api.Cap{with(api.Cap{Type: ty}, field, n), with(api.Cap{Type: ty, Rights: 15, Obj: 1023, Gen: 4095}, field, n)} {
					want := api.ErrCap
					if mayBe(c) {
						want = api.OK
					}
					if e := Check(c); e != want {
						t.Errorf("%+v: %v, not %v", c, e, want)
					}
				}
			}
		}
	}
}

// wordOf reckons P3.2's word without bits: by products.
func wordOf(c api.Cap) uint64 {
	return uint64(c.Type) + 16*uint64(c.Rights) + 256*uint64(c.Badge) + 16777216*uint64(c.Obj) + 17179869184*uint64(c.Gen)
}

// TestWord: P3.2.
func TestWord(t *testing.T) {
	known := []struct {
		c api.Cap
		w uint64
	}{
		{api.Cap{}, 0},
		{api.Cap{Type: 3, Rights: 3, Obj: 2, Gen: 1}, 0x0000000402000033},
		{api.Cap{Type: 1}, 1},
		{api.Cap{Type: 2, Badge: 7}, 0x702},
		{api.Cap{Type: 5, Rights: 15, Badge: 65535, Obj: 1023, Gen: 4095}, 0x00003ffffffffff5},
		{api.Cap{Type: 4, Badge: 65535}, 0xffff04},
		{api.Cap{Type: 3, Obj: 1023}, 0x3ff000003},
		{api.Cap{Type: 3, Gen: 4095}, 0x00003ffc00000003},
	}
	for _, k := range known {
		if w, e := Word(k.c); w != k.w || e != api.OK {
			t.Errorf("%+v: %x %v", k.c, w, e)
		}
	}
	for _, c := range some() {
		if w, e := Word(c); w != wordOf(c) || e != api.OK {
			t.Fatalf("%+v: %x %v", c, w, e)
		}
	}
	for _, c := range wrong() {
		if w, e := Word(c); w != 0 || e != api.ErrCap {
			t.Errorf("%+v: %x %v", c, w, e)
		}
	}
}

// TestParse: P3.2.
func TestParse(t *testing.T) {
	if c, e := Parse(0); c != (api.Cap{}) || e != api.OK {
		t.Errorf("0: %+v %v", c, e)
	}
	if c, e := Parse(0x0000000402000033); c != (api.Cap{Type: 3, Rights: 3, Obj: 2, Gen: 1}) || e != api.OK {
		t.Errorf("frame: %+v %v", c, e)
	}
	for _, c := range some() {
		if d, e := Parse(wordOf(c)); d != c || e != api.OK {
			t.Fatalf("%+v: %+v %v", c, d, e)
		}
	}
}

func wantNoWord(t *testing.T, w uint64) {
	t.Helper()
	if c, e := Parse(w); c != (api.Cap{}) || e != api.ErrCap {
		t.Errorf("%016x: %+v %v", w, c, e)
	}
}

// TestParseWrong: P3.2, words that are none.
func TestParseWrong(t *testing.T) {
	for bit := 46; bit < 64; bit++ { // above the fields
		wantNoWord(t, 1<<bit)
		wantNoWord(t, 0x0000000402000033|1<<bit)
		wantNoWord(t, 0x00003ffffffffff5|1<<bit)
	}
	for ty := uint64(6); ty < 16; ty++ {
		wantNoWord(t, ty)
		wantNoWord(t, 0x0000000402000030|ty)
	}
	for bit := 4; bit < 46; bit++ { // of none, that has no other number
		wantNoWord(t, 1<<bit)
	}
	for bit := 8; bit < 24; bit++ { // a Badge where there is none
		wantNoWord(t, 0xf1|1<<bit)
		wantNoWord(t, 0xf3|1<<bit)
	}
	for badge := uint64(8); badge <= 65535; badge += 8 {
		wantNoWord(t, badge<<8|0xf2)
	}
	wantNoWord(t, math.MaxUint64)
	wantNoWord(t, 1<<63)
}

// TestThereAndBack: P3.5.
func TestThereAndBack(t *testing.T) {
	seen := map[uint64]api.Cap{}
	for _, c := range append(some(), api.Cap{}) {
		w, e := Word(c)
		if e != api.OK {
			t.Fatalf("%+v: %v", c, e)
		}
		if d, e := Parse(w); d != c || e != api.OK {
			t.Fatalf("%+v: %x: %+v %v", c, w, d, e)
		}
		if d, ok := seen[w]; ok {
			t.Fatalf("%+v and %+v have the word %x", c, d, w)
		}
		seen[w] = c
	}
}

// TestWordOfParse: P3.5, over words that are strewn: those that parse come back, the others may not be.
func TestWordOfParse(t *testing.T) {
	w, good := uint64(1), 0
	for range 200000 {
		w = w*6364136223846793005 + 1442695040888963407
		for _, v := range []uint64{w, w >> 18, w >> 18 &^ 0xffff00, w >> 18 & 7, w >> 18 &^ 8} {
			c, e := Parse(v)
			if e != api.OK {
				in := api.Cap{Type: int(v % 16), Rights: int(v / 16 % 16), Badge: int(v / 256 % 65536), Obj: int(v / 16777216 % 1024), Gen: int(v / 17179869184 % 4096)}
				if e != api.ErrCap || c != (api.Cap{}) || v < 1<<46 && mayBe(in) {
					t.Fatalf("%x: %+v %v", v, c, e)
				}
				continue
			}
			good++
			if back, e := Word(c); back != v || e != api.OK {
				t.Fatalf("%x: %+v: %x %v", v, c, back, e)
			}
		}
	}
	if good < 1000 {
		t.Fatal("too few words parse:", good)
	}
}

// TestDerive: P3.3, over all rights and edges of badges.
func TestDerive(t *testing.T) {
	badges := append([]int{0, 1, 2, 7, 8, 9, 65534, 65535}, never...)
	for _, k := range kinds {
		for _, own := range badgesOf(k.badge) {
			for have := 0; have <= api.All; have++ {
				c := api.Cap{Type: k.number, Rights: have, Badge: own, Obj: 1023, Gen: 17}
				for r := -1; r <= api.All+1; r++ {
					for _, b := range badges {
						wantDerived(t, c, r, b)
					}
				}
			}
		}
	}
}

// wantDerived holds Derive against P3.3, said once more: c may be, and is not none.
func wantDerived(t *testing.T, c api.Cap, r, b int) {
	t.Helper()
	want, code := c, api.OK
	want.Rights = r
	if b != 0 {
		want.Badge = b
	}
	switch {
	case r < 0 || r > 15 || r|c.Rights != c.Rights:
		want, code = api.Cap{}, api.ErrRights
	case b != 0 && (c.Type != api.TyEndpoint && c.Type != api.TyNotice || c.Badge != 0 || b < 1 || b > 65535):
		want, code = api.Cap{}, api.ErrArg
	}
	if d, e := Derive(c, r, b); d != want || e != code {
		t.Fatalf("Derive(%+v, %d, %d) = %+v %v, not %+v %v", c, r, b, d, e, want, code)
	}
}

// TestDeriveErrors: P3.3, of two errors at once the first one.
func TestDeriveErrors(t *testing.T) {
	frame := api.Cap{Type: api.TyFrame, Rights: 3, Obj: 2, Gen: 1}
	node := api.Cap{Type: api.TyNode, Rights: 15}
	guarded := api.Cap{Type: api.TyNode, Rights: 15, Badge: 3}
	badged := api.Cap{Type: api.TyEndpoint, Rights: 7, Badge: 1}
	free := api.Cap{Type: api.TyEndpoint, Rights: 7}
	for _, k := range []struct {
		c     api.Cap
		r, b  int
		error api.Errno
	}{
		{api.Cap{}, 0, 0, api.ErrCap},
		{api.Cap{}, 1, 0, api.ErrCap},
		{api.Cap{}, 16, -1, api.ErrCap},
		{api.Cap{Type: 6, Rights: 1}, 1, 0, api.ErrCap},
		{api.Cap{Type: 3, Rights: 1, Badge: 1}, 2, 1, api.ErrCap},
		{api.Cap{Type: 3, Rights: 16}, 16, 0, api.ErrCap},
		{api.Cap{Rights: 1}, 1, 0, api.ErrCap},
		{frame, 8, 0, api.ErrRights},
		{frame, 7, 5, api.ErrRights},
		{frame, -1, 5, api.ErrRights},
		{frame, 16, 0, api.ErrRights},
		{frame, math.MinInt | 1, 0, api.ErrRights},
		{badged, 8, 2, api.ErrRights},
		{free, 15, 65536, api.ErrRights},
		{frame, 3, 1, api.ErrArg},
		{frame, 3, -1, api.ErrArg},
		{node, 3, 1, api.ErrArg},
		{guarded, 3, 3, api.ErrArg},
		{badged, 7, 1, api.ErrArg},
		{badged, 7, 2, api.ErrArg},
		{free, 7, -1, api.ErrArg},
		{free, 7, 65536, api.ErrArg},
	} {
		if d, e := Derive(k.c, k.r, k.b); d != (api.Cap{}) || e != k.error {
			t.Errorf("Derive(%+v, %d, %d) = %+v %v, not %v", k.c, k.r, k.b, d, e, k.error)
		}
	}
	for _, c := range wrong() {
		for _, b := range []int{0, 1, -1} {
			if d, e := Derive(c, 0, b); d != (api.Cap{}) || e != api.ErrCap {
				t.Errorf("Derive(%+v, 0, %d) = %+v %v", c, b, d, e)
			}
		}
	}
	if d, e := Derive(guarded, 1, 0); d != (api.Cap{Type: 2, Rights: 1, Badge: 3}) || e != api.OK {
		t.Errorf("the guard is lost: %+v %v", d, e)
	}
}

// TestNeverMore: P3.6.
func TestNeverMore(t *testing.T) {
	for _, c := range some() {
		for r := 0; r <= api.All; r++ {
			for _, b := range []int{0, 9} {
				d, e := Derive(c, r, b)
				if e != api.OK {
					continue
				}
				if !Names(c, d) || d.Rights|c.Rights != c.Rights || Check(d) != api.OK {
					t.Fatalf("%+v of %+v", d, c)
				}
				for again := 0; again <= api.All; again++ {
					f, e := Derive(d, again, 0)
					if within := again|d.Rights == d.Rights; within != (e == api.OK) {
						t.Fatalf("%d of %+v: %v", again, d, e)
					}
					if e == api.OK && (!Names(c, f) || f.Rights|d.Rights != d.Rights || f.Rights|c.Rights != c.Rights) {
						t.Fatalf("%+v of %+v", f, d)
					}
				}
			}
		}
	}
}

// TestMay: P3.4.
func TestMay(t *testing.T) {
	for _, c := range some() {
		for r := -2; r <= 17; r++ {
			want := r >= 0 && r <= 15 && r|c.Rights == c.Rights
			if May(c, r) != want {
				t.Fatalf("May(%+v, %d) = %v", c, r, !want)
			}
		}
	}
	for _, r := range append([]int{0, 1, 15, 16}, never...) {
		if May(api.Cap{}, r) {
			t.Errorf("none may %d", r)
		}
	}
	frame := api.Cap{Type: api.TyFrame, Rights: 15}
	for _, r := range never {
		if May(frame, r) {
			t.Errorf("a frame may %d", r)
		}
	}
	for _, c := range wrong() {
		if May(c, 0) || May(c, c.Rights) {
			t.Errorf("%+v may", c)
		}
	}
}

// TestNames: P3.4.
func TestNames(t *testing.T) {
	c := api.Cap{Type: api.TyEndpoint, Rights: 3, Badge: 5, Obj: 7, Gen: 2}
	if !Names(c, c) {
		t.Error("not itself")
	}
	for field, same := range []bool{false, true, true, false, false} {
		for _, n := range []int{0, 1, 15} {
			d := with(c, field, n)
			if Names(c, d) != same || Names(d, c) != same {
				t.Errorf("%+v and %+v: %v", c, d, !same)
			}
		}
	}
	swapped := api.Cap{Type: api.TyEndpoint, Rights: 3, Badge: 5, Obj: 2, Gen: 7}
	if Names(c, swapped) {
		t.Error("Obj and Gen are swapped")
	}
	frame := api.Cap{Type: api.TyFrame}
	if !Names(frame, api.Cap{Type: api.TyFrame, Rights: 15}) {
		t.Error("frame 0.0")
	}
	none := api.Cap{}
	if Names(none, none) || Names(none, c) || Names(c, none) || Names(none, api.Cap{Rights: 1}) || Names(api.Cap{Rights: 1}, none) {
		t.Error("none names something")
	}
	if !Names(api.Cap{Type: 9, Obj: -1}, api.Cap{Type: 9, Obj: -1, Rights: 99}) || !Names(api.Cap{Rights: 1}, api.Cap{Badge: 1}) {
		t.Error("Type, Obj and Gen are the same, and neither is none")
	}
}

// TestText: P3.4.
func TestText(t *testing.T) {
	known := []struct {
		c    api.Cap
		text string
	}{
		{api.Cap{}, "none"},
		{api.Cap{Type: 1}, "untyped 0.0 ----"},
		{api.Cap{Type: 1, Rights: 15, Obj: 1023, Gen: 4095}, "untyped 1023.4095 rwgc"},
		{api.Cap{Type: 2, Rights: 1}, "node 0.0 r---"},
		{api.Cap{Type: 2, Rights: 8, Badge: 7, Obj: 10}, "node 10.0 ---c 7"},
		{api.Cap{Type: 3, Rights: 3, Obj: 2, Gen: 1}, "frame 2.1 rw--"},
		{api.Cap{Type: 4, Rights: 6, Badge: 65535, Obj: 100, Gen: 20}, "endpoint 100.20 -wg- 65535"},
		{api.Cap{Type: 5, Rights: 2, Badge: 9, Obj: 1}, "notice 1.0 -w-- 9"},
	}
	for _, k := range known {
		if s := Text(k.c); s != k.text {
			t.Errorf("%+v: %q, not %q", k.c, s, k.text)
		}
	}
	for _, c := range wrong() {
		if s := Text(c); s != "" {
			t.Errorf("%+v: %q", c, s)
		}
	}
}

// TestTextParts: P3.4, over all that some has.
func TestTextParts(t *testing.T) {
	for _, c := range some() {
		signs := []byte("----")
		for i := range signs {
			if c.Rights>>i%2 == 1 {
				signs[i] = "rwgc"[i]
			}
		}
		want := kinds[c.Type-1].name + " " + strconv.Itoa(c.Obj) + "." + strconv.Itoa(c.Gen) + " " + string(signs)
		if c.Badge != 0 {
			want += " " + strconv.Itoa(c.Badge)
		}
		if s := Text(c); s != want {
			t.Fatalf("%+v: %q, not %q", c, s, want)
		}
	}
}

package call

import (
	"math"
	"slices"
	"testing"

	"garrison/api"
)

// How a kind has B.
const (
	never = iota
	maybe // 0, or an address word
	must
)

// The numbers of a call that are ints and have an end, in the order of what.ends.
const (
	inRights = iota
	inBadge
	inType
	inSize
	numbers
)

type span struct{ least, most int }

// what is what the document says of a kind, written out: how it has B, from where to where its numbers go, whether it has a Value.
type what struct {
	kind  int
	name  string
	b     int
	ends  [numbers]span
	value bool
}

var kinds = []what{
	{kind: 1, name: "mint", b: must, ends: [numbers]span{inRights: {0, 15}, inBadge: {0, 65535}}},
	{kind: 2, name: "move", b: must},
	{kind: 3, name: "delete"},
	{kind: 4, name: "revoke"},
	{kind: 5, name: "retype", b: must, ends: [numbers]span{inType: {1, 5}, inSize: {0, 1048576}}},
	{kind: 6, name: "read"},
	{kind: 7, name: "write", value: true},
	{kind: 8, name: "send", b: maybe, value: true},
	{kind: 9, name: "recv", b: maybe},
	{kind: 10, name: "signal"},
	{kind: 11, name: "wait"},
	{kind: 12, name: "look"},
}

// Address words: of one step and of the most steps, the least and the greatest of each, and some between.
var addresses = []uint64{1, 0xc1, 0x1f9, 2, 0x1ac2, 0x7ffa, 3, 0x1ffffb, 4, 0x5a5a5a4, 0x7fffffc}

// Words that are no address words: of no step, of five and more, with bits behind the last step.
var noAddresses = []uint64{0, 5, 6, 7, 8, 0x201, 0x8002, 0x200003, 0x8000004, 0xffffffc, 0x1ffffffd, 1 << 63, 1<<63 | 1, 1<<32 | 1, math.MaxUint64, math.MaxUint64 - 3}

var values = []int64{-1, 0, 1, 2, -2, math.MaxInt64, math.MinInt64, math.MaxInt64 - 1, math.MinInt64 + 1, 1 << 31, -1 << 31, 1 << 32, -1 << 32, 0x0123456789abcdef}

// ends are numbers at the ends of int, and such as are small again if bits of them are lost.
var ends = []int{math.MinInt, math.MinInt + 1, math.MinInt + 5, math.MaxInt, math.MaxInt - 1, math.MaxInt - 7,
	1 << 31, -1 << 31, 1 << 32, 1<<32 + 1, 1<<32 + 5, -1 << 32, -1<<32 + 1, 1 << 62, 1<<62 + 1, -1 << 62}

// edges are numbers about which something changes, or might.
var edges = append([]int{-65536, -16, -13, -12, -5, -2, -1, 0, 1, 2, 3, 4, 5, 6, 7, 8, 9, 11, 12, 13, 14, 15, 16, 17, 31, 32, 255, 256,
	65534, 65535, 65536, 65537, 1048575, 1048576, 1048577, 2097151, 2097152, 2097153}, ends...)

// number is the place of one of c's numbers.
func number(c *api.Call, which int) *int {
	switch which {
	case inRights:
		return &c.Rights
	case inBadge:
		return &c.Badge
	case inType:
		return &c.Type
	}
	return &c.Size
}

// with is c with another one of its numbers.
func with(c api.Call, which, n int) api.Call {
	*number(&c, which) = n
	return c
}

func withKind(c api.Call, kind int) api.Call { c.Kind = kind; return c }
func withA(c api.Call, a uint64) api.Call    { c.A = a; return c }
func withB(c api.Call, b uint64) api.Call    { c.B = b; return c }
func withValue(c api.Call, v int64) api.Call { c.Value = v; return c }

// isWord is what the document says of an address word: one to four steps of six bits, behind three.
func isWord(w uint64) bool {
	switch w % 8 {
	case 1:
		return w < 8*64
	case 2:
		return w < 8*64*64
	case 3:
		return w < 8*64*64*64
	case 4:
		return w < 8*64*64*64*64
	}
	return false
}

// mayBe says once more what P15.2 says.
func mayBe(c api.Call) bool {
	at := slices.IndexFunc(kinds, func(k what) bool { return k.kind == c.Kind })
	if at < 0 || !isWord(c.A) {
		return false
	}
	k := kinds[at]
	for which, s := range k.ends {
		if n := *number(&c, which); n < s.least || n > s.most {
			return false
		}
	}
	b := c.B == 0 && k.b != must || isWord(c.B) && k.b != never
	return b && (k.value || c.Value == 0)
}

// wordsOf reckons P15.3's words of a call that may be without bits: by products.
func wordsOf(c api.Call) []uint64 {
	first := uint64(c.Kind) + 16*uint64(c.Rights) + 256*uint64(c.Type) + 4096*uint64(c.Badge) + 268435456*uint64(c.Size)
	value := uint64(c.Value)
	if c.Value < 0 {
		value = math.MaxUint64 - uint64(-(c.Value + 1))
	}
	return []uint64{first, c.A, c.B, value}
}

// callOf is what the document says of Parse: the call whose words those are, if there is one.
func callOf(l []uint64) (api.Call, bool) {
	if len(l) != 4 {
		return api.Call{}, false
	}
	w := l[0]
	c := api.Call{Kind: int(w % 16), Rights: int(w / 16 % 16), Type: int(w / 256 % 16), Badge: int(w / 4096 % 65536), Size: int(w / 268435456 % 2097152), A: l[1], B: l[2]}
	c.Value = int64(l[3] % (1 << 63))
	if l[3] >= 1<<63 {
		c.Value += math.MinInt64
	}
	if w >= 1<<49 || !mayBe(c) {
		return api.Call{}, false
	}
	return c, true
}

// least is the least call of a kind, most the greatest one.
func least(k what) api.Call {
	c := api.Call{Kind: k.kind, A: 1}
	for which, s := range k.ends {
		*number(&c, which) = s.least
	}
	if k.b == must {
		c.B = 1
	}
	if k.value {
		c.Value = math.MinInt64
	}
	return c
}

func most(k what) api.Call {
	c := api.Call{Kind: k.kind, A: 0x7fffffc}
	for which, s := range k.ends {
		*number(&c, which) = s.most
	}
	if k.b != never {
		c.B = 0x7fffffc
	}
	if k.value {
		c.Value = math.MaxInt64
	}
	return c
}

// some are calls of a kind that may be: each of what it has with each of what else it has, at their edges.
func some(k what) []api.Call {
	bs := []uint64{0}
	if k.b == must {
		bs = nil
	}
	if k.b != never {
		bs = append(bs, addresses...)
	}
	vs := []int64{0}
	if k.value {
		vs = values
	}
	var l []api.Call
	for _, a := range addresses {
		for _, b := range bs {
			for _, v := range vs {
				l = append(l, api.Call{Kind: k.kind, A: a, B: b, Value: v})
			}
		}
	}
	for which, s := range k.ends {
		var more []api.Call
		for _, c := range l {
			for _, n := range inside(s) {
				more = append(more, with(c, which, n))
			}
		}
		l = more
	}
	return l
}

// inside are the edges that are within s, each once.
func inside(s span) []int {
	var l []int
	for _, n := range edges {
		if n >= s.least && n <= s.most {
			l = append(l, n)
		}
	}
	return l
}

// all are calls of all kinds that may be.
func all() []api.Call {
	var l []api.Call
	for _, k := range kinds {
		l = append(l, some(k)...)
	}
	return l
}

// faulty are calls that are well but for one thing, which may be at an edge and be well, too: no call is left out for that.
func faulty() []api.Call {
	l := []api.Call{{}}
	for _, k := range kinds {
		for _, c := range []api.Call{least(k), most(k)} {
			for which := range numbers {
				for _, n := range edges {
					l = append(l, with(c, which, n))
				}
			}
			for _, w := range slices.Concat(addresses, noAddresses) {
				l = append(l, withA(c, w), withB(c, w))
			}
			for _, v := range values {
				l = append(l, withValue(c, v))
			}
			for _, n := range edges {
				l = append(l, withKind(c, n))
			}
		}
	}
	return l
}

// holds says whether Check and Put answer what the document says of c, and Parse of its words.
func holds(t *testing.T, c api.Call) {
	t.Helper()
	if !mayBe(c) {
		if e := Check(c); e != api.ErrCall {
			t.Fatalf("Check(%+v): %v", c, e)
		}
		if l, e := Put(c); len(l) != 0 || e != api.ErrCall {
			t.Fatalf("Put(%+v): %x %v", c, l, e)
		}
		return
	}
	if e := Check(c); e != api.OK {
		t.Fatalf("Check(%+v): %v", c, e)
	}
	l, e := Put(c)
	if !slices.Equal(l, wordsOf(c)) || e != api.OK {
		t.Fatalf("Put(%+v): %x %v, not %x", c, l, e, wordsOf(c))
	}
	if d, e := Parse(l...); d != c || e != api.OK {
		t.Fatalf("Parse(%x): %+v %v, not %+v", l, d, e, c)
	}
}

// reads says whether Parse answers what the document says of l; and whether there is a call.
func reads(t *testing.T, l ...uint64) bool {
	t.Helper()
	before := slices.Clone(l)
	want, is := callOf(l)
	c, e := Parse(l...)
	if c != want || is && e != api.OK || !is && e != api.ErrCall {
		t.Fatalf("Parse(%x): %+v %v, not %+v", l, c, e, want)
	}
	if !slices.Equal(l, before) {
		t.Fatalf("%x are %x behind Parse", before, l)
	}
	if is {
		if back, e := Put(c); !slices.Equal(back, l) || e != api.OK {
			t.Fatalf("Put(%+v): %x %v, not %x", c, back, e, l)
		}
	}
	return is
}

// TestLimits: what is written out in these tests is what package api has.
func TestLimits(t *testing.T) {
	if len(kinds) != api.MaxCall || api.MaxType != 5 || api.MaxBadge != 65535 || api.MaxSpace != 1048576 || api.All != 15 || api.ErrCall != 150 {
		t.Fatal("the limits are others")
	}
	number := []int{api.CaMint, api.CaMove, api.CaDelete, api.CaRevoke, api.CaRetype, api.CaRead, api.CaWrite, api.CaSend, api.CaRecv, api.CaSignal, api.CaWait, api.CaLook}
	for i, k := range kinds {
		if k.kind != i+1 || number[i] != k.kind {
			t.Fatal(k.name, k.kind, number[i])
		}
	}
}

// TestName: P15.1.
func TestName(t *testing.T) {
	for _, k := range kinds {
		if s := Name(k.kind); s != k.name {
			t.Errorf("%d: %q, not %q", k.kind, s, k.name)
		}
	}
	for _, n := range edges {
		if n >= 1 && n <= 12 {
			continue
		}
		if s := Name(n); s != "" {
			t.Errorf("%d: %q", n, s)
		}
	}
	for n := -300; n <= 300; n++ {
		if s := Name(n); (s != "") != (n >= 1 && n <= 12) {
			t.Errorf("%d: %q", n, s)
		}
	}
}

// TestCheckTable: P15.2, written out by hand.
func TestCheckTable(t *testing.T) {
	const a, b = 0xc1, 0x1ac2
	for _, x := range []struct {
		c  api.Call
		ok bool
	}{
		{api.Call{}, false},
		{api.Call{A: a}, false},
		{api.Call{A: a, B: b}, false},
		{api.Call{Kind: 13, A: a}, false},
		{api.Call{Kind: -1, A: a}, false},
		{api.Call{Kind: api.CaMint, A: a, B: b}, true},
		{api.Call{Kind: api.CaMint, A: a, B: a}, true},
		{api.Call{Kind: api.CaMint, A: a, B: b, Rights: 15, Badge: 65535}, true},
		{api.Call{Kind: api.CaMint, A: a, B: b, Rights: 16}, false},
		{api.Call{Kind: api.CaMint, A: a, B: b, Rights: -1}, false},
		{api.Call{Kind: api.CaMint, A: a, B: b, Badge: 65536}, false},
		{api.Call{Kind: api.CaMint, A: a, B: b, Badge: -1}, false},
		{api.Call{Kind: api.CaMint, A: a}, false},
		{api.Call{Kind: api.CaMint, B: b}, false},
		{api.Call{Kind: api.CaMint, A: a, B: b, Type: 1}, false},
		{api.Call{Kind: api.CaMint, A: a, B: b, Size: 1}, false},
		{api.Call{Kind: api.CaMint, A: a, B: b, Value: 1}, false},
		{api.Call{Kind: api.CaMint, A: a, B: b, Rights: 16, Badge: -1}, false},
		{api.Call{Kind: api.CaMint, A: a, B: 5, Rights: 15}, false},
		{api.Call{Kind: api.CaMove, A: a, B: b}, true},
		{api.Call{Kind: api.CaMove, A: a}, false},
		{api.Call{Kind: api.CaMove, A: a, B: 5}, false},
		{api.Call{Kind: api.CaMove, A: a, B: b, Rights: 1}, false},
		{api.Call{Kind: api.CaMove, A: a, B: b, Badge: 1}, false},
		{api.Call{Kind: api.CaDelete, A: a}, true},
		{api.Call{Kind: api.CaDelete, A: a, B: b}, false},
		{api.Call{Kind: api.CaRevoke, A: a}, true},
		{api.Call{Kind: api.CaRevoke, A: a, Rights: 15}, false},
		{api.Call{Kind: api.CaRetype, A: a, B: b, Type: 1}, true},
		{api.Call{Kind: api.CaRetype, A: a, B: b, Type: 5, Size: 1048576}, true},
		{api.Call{Kind: api.CaRetype, A: a, B: b, Size: 16}, false},
		{api.Call{Kind: api.CaRetype, A: a, B: b, Type: 6}, false},
		{api.Call{Kind: api.CaRetype, A: a, B: b, Type: -1}, false},
		{api.Call{Kind: api.CaRetype, A: a, B: b, Type: 1, Size: 1048577}, false},
		{api.Call{Kind: api.CaRetype, A: a, B: b, Type: 1, Size: 2097151}, false},
		{api.Call{Kind: api.CaRetype, A: a, B: b, Type: 1, Size: -1}, false},
		{api.Call{Kind: api.CaRetype, A: a, Type: 1}, false},
		{api.Call{Kind: api.CaRetype, A: a, B: b, Type: 1, Rights: 1}, false},
		{api.Call{Kind: api.CaRetype, A: a, B: b, Type: 1, Value: -1}, false},
		{api.Call{Kind: api.CaRead, A: a}, true},
		{api.Call{Kind: api.CaRead, A: a, Value: 1}, false},
		{api.Call{Kind: api.CaWrite, A: a}, true},
		{api.Call{Kind: api.CaWrite, A: a, Value: -1}, true},
		{api.Call{Kind: api.CaWrite, A: a, B: b, Value: 1}, false},
		{api.Call{Kind: api.CaWrite, Value: 1}, false},
		{api.Call{Kind: api.CaSend, A: a}, true},
		{api.Call{Kind: api.CaSend, A: a, B: b, Value: math.MinInt64}, true},
		{api.Call{Kind: api.CaSend, A: a, B: 5}, false},
		{api.Call{Kind: api.CaSend, A: a, B: b, Badge: 1}, false},
		{api.Call{Kind: api.CaRecv, A: a}, true},
		{api.Call{Kind: api.CaRecv, A: a, B: b}, true},
		{api.Call{Kind: api.CaRecv, A: a, B: 8}, false},
		{api.Call{Kind: api.CaRecv, A: a, B: b, Value: 1}, false},
		{api.Call{Kind: api.CaSignal, A: a}, true},
		{api.Call{Kind: api.CaSignal, A: a, Badge: 1}, false},
		{api.Call{Kind: api.CaWait, A: a}, true},
		{api.Call{Kind: api.CaWait, A: a, B: b}, false},
		{api.Call{Kind: api.CaLook, A: a}, true},
		{api.Call{Kind: api.CaLook, A: 5}, false},
	} {
		want := api.ErrCall
		if x.ok {
			want = api.OK
		}
		if e := Check(x.c); e != want {
			t.Errorf("%+v: %v, not %v", x.c, e, want)
		}
		if mayBe(x.c) != x.ok {
			t.Errorf("%+v: the tests' own rule says otherwise", x.c)
		}
		holds(t, x.c)
	}
}

// TestHave: P15.2, each number that a kind has: at its least and greatest value, right beyond these, and at 0.
func TestHave(t *testing.T) {
	for _, k := range kinds {
		for _, c := range []api.Call{least(k), most(k)} {
			for which, s := range k.ends {
				if s == (span{}) {
					continue
				}
				for _, x := range []struct {
					n    int
					want api.Errno
				}{{s.least, api.OK}, {s.most, api.OK}, {s.least + 1, api.OK}, {s.most - 1, api.OK}, {s.least - 1, api.ErrCall}, {s.most + 1, api.ErrCall}} {
					if e := Check(with(c, which, x.n)); e != x.want {
						t.Errorf("%+v: %v, not %v", with(c, which, x.n), e, x.want)
					}
				}
				if e := Check(with(c, which, 0)); (e == api.OK) != (s.least == 0) {
					t.Errorf("%+v: %v", with(c, which, 0), e)
				}
			}
		}
	}
}

// TestHaveNot: P15.2, each field that a kind has not: at 1, at -1, and at the ends of its type.
func TestHaveNot(t *testing.T) {
	refused := func(c api.Call) {
		t.Helper()
		if e := Check(c); e != api.ErrCall {
			t.Errorf("%+v: %v", c, e)
		}
	}
	for _, k := range kinds {
		for _, c := range []api.Call{least(k), most(k)} {
			if e := Check(c); e != api.OK {
				t.Errorf("%+v: %v", c, e)
			}
			for which, s := range k.ends {
				for _, n := range append([]int{1, -1, 2, 5, 16}, ends...) {
					if s == (span{}) {
						refused(with(c, which, n))
					}
				}
			}
			for _, b := range []uint64{1, math.MaxUint64, 1 << 63, 0xc1, 0x7fffffc, 5} {
				if k.b == never {
					refused(withB(c, b))
				}
			}
			for _, v := range []int64{1, -1, math.MaxInt64, math.MinInt64, 1 << 32} {
				if !k.value {
					refused(withValue(c, v))
				}
			}
		}
	}
}

// TestAddresses: P15.2, A and B that are address words, that are 0, that are none, and with each bit turned.
func TestAddresses(t *testing.T) {
	for _, w := range addresses {
		if !isWord(w) {
			t.Fatalf("%x", w)
		}
	}
	for _, w := range noAddresses {
		if isWord(w) {
			t.Fatalf("%x", w)
		}
	}
	for _, k := range kinds {
		if e := Check(withA(least(k), 0)); e != api.ErrCall {
			t.Errorf("%s of 0: %v", k.name, e)
		}
		if e := Check(withB(least(k), 0)); (e == api.OK) != (k.b != must) {
			t.Errorf("%s to 0: %v", k.name, e)
		}
		for _, w := range slices.Concat(addresses, noAddresses) {
			holds(t, withA(least(k), w))
			holds(t, withB(most(k), w))
			for bit := range 64 {
				holds(t, withA(most(k), w^1<<bit))
				holds(t, withB(least(k), w^1<<bit))
			}
		}
		for w := range uint64(2048) {
			holds(t, withA(least(k), w))
			holds(t, withB(least(k), w))
		}
	}
}

// TestAll: P15.2 to P15.4, of calls that may be.
func TestAll(t *testing.T) {
	for _, c := range all() {
		if !mayBe(c) {
			t.Fatalf("%+v", c)
		}
		holds(t, c)
	}
}

// TestFaulty: P15.2, P15.3, of calls with one thing at fault, or at an edge.
func TestFaulty(t *testing.T) {
	for _, c := range faulty() {
		holds(t, c)
	}
}

// TestFaultyTwice: P15.2, two numbers at edges at once, of all kinds: one that is well does not make up for the other.
func TestFaultyTwice(t *testing.T) {
	for kind := -1; kind <= 17; kind++ {
		for _, b := range []uint64{0, 1, 5} {
			for one := range numbers {
				for other := range one {
					for _, n := range edges {
						for _, m := range edges {
							holds(t, with(with(api.Call{Kind: kind, A: 1, B: b}, one, n), other, m))
						}
					}
				}
			}
		}
	}
}

// TestZero: P15.2, P15.3, the zero call.
func TestZero(t *testing.T) {
	if e := Check(api.Call{}); e != api.ErrCall {
		t.Error(e)
	}
	if l, e := Put(api.Call{}); len(l) != 0 || e != api.ErrCall {
		t.Error(l, e)
	}
}

// TestPutTable: P15.3, written out by hand; the first is the chapter's example.
func TestPutTable(t *testing.T) {
	const a, b = 0xc1, 0x1ac2
	for _, x := range []struct {
		c api.Call
		l [4]uint64
	}{
		{api.Call{Kind: api.CaDelete, A: a}, [4]uint64{3, a, 0, 0}},
		{api.Call{Kind: api.CaMint, A: a, B: b}, [4]uint64{1, a, b, 0}},
		{api.Call{Kind: api.CaMint, A: a, B: b, Rights: 1}, [4]uint64{0x11, a, b, 0}},
		{api.Call{Kind: api.CaMint, A: a, B: b, Rights: 15}, [4]uint64{0xf1, a, b, 0}},
		{api.Call{Kind: api.CaMint, A: a, B: b, Badge: 1}, [4]uint64{0x1001, a, b, 0}},
		{api.Call{Kind: api.CaMint, A: a, B: b, Badge: 65535}, [4]uint64{0xffff001, a, b, 0}},
		{api.Call{Kind: api.CaMint, A: a, B: b, Rights: 5, Badge: 0x1234}, [4]uint64{0x1234051, a, b, 0}},
		{api.Call{Kind: api.CaMove, A: b, B: a}, [4]uint64{2, b, a, 0}},
		{api.Call{Kind: api.CaRevoke, A: b}, [4]uint64{4, b, 0, 0}},
		{api.Call{Kind: api.CaRetype, A: a, B: b, Type: 1}, [4]uint64{0x105, a, b, 0}},
		{api.Call{Kind: api.CaRetype, A: a, B: b, Type: 5}, [4]uint64{0x505, a, b, 0}},
		{api.Call{Kind: api.CaRetype, A: a, B: b, Type: 3, Size: 1}, [4]uint64{0x10000305, a, b, 0}},
		{api.Call{Kind: api.CaRetype, A: a, B: b, Type: 1, Size: 1048576}, [4]uint64{0x1000000000105, a, b, 0}},
		{api.Call{Kind: api.CaRetype, A: a, B: b, Type: 5, Size: 1048575}, [4]uint64{0xfffff0000505, a, b, 0}},
		{api.Call{Kind: api.CaRead, A: a}, [4]uint64{6, a, 0, 0}},
		{api.Call{Kind: api.CaWrite, A: a}, [4]uint64{7, a, 0, 0}},
		{api.Call{Kind: api.CaWrite, A: a, Value: 1}, [4]uint64{7, a, 0, 1}},
		{api.Call{Kind: api.CaWrite, A: a, Value: -1}, [4]uint64{7, a, 0, 0xffffffffffffffff}},
		{api.Call{Kind: api.CaWrite, A: a, Value: math.MaxInt64}, [4]uint64{7, a, 0, 0x7fffffffffffffff}},
		{api.Call{Kind: api.CaWrite, A: a, Value: math.MinInt64}, [4]uint64{7, a, 0, 0x8000000000000000}},
		{api.Call{Kind: api.CaSend, A: a}, [4]uint64{8, a, 0, 0}},
		{api.Call{Kind: api.CaSend, A: a, B: b, Value: -2}, [4]uint64{8, a, b, 0xfffffffffffffffe}},
		{api.Call{Kind: api.CaRecv, A: a}, [4]uint64{9, a, 0, 0}},
		{api.Call{Kind: api.CaRecv, A: a, B: b}, [4]uint64{9, a, b, 0}},
		{api.Call{Kind: api.CaSignal, A: 1}, [4]uint64{10, 1, 0, 0}},
		{api.Call{Kind: api.CaWait, A: 0x7fffffc}, [4]uint64{11, 0x7fffffc, 0, 0}},
		{api.Call{Kind: api.CaLook, A: a}, [4]uint64{12, a, 0, 0}},
	} {
		if l, e := Put(x.c); !slices.Equal(l, x.l[:]) || e != api.OK {
			t.Errorf("%+v: %x %v", x.c, l, e)
		}
		if c, e := Parse(x.l[0], x.l[1], x.l[2], x.l[3]); c != x.c || e != api.OK {
			t.Errorf("%x: %+v %v", x.l, c, e)
		}
	}
}

// TestParseCount: P15.3, words that are not four.
func TestParseCount(t *testing.T) {
	if c, e := Parse(); c != (api.Call{}) || e != api.ErrCall {
		t.Error(c, e)
	}
	var none []uint64
	if c, e := Parse(none...); c != (api.Call{}) || e != api.ErrCall {
		t.Error(c, e)
	}
	for _, k := range kinds {
		l := append(wordsOf(most(k)), 0, 1, 3, 0xc1, 0, 0)
		for n := range len(l) + 1 {
			if reads(t, l[:n]...) != (n == 4) {
				t.Errorf("%s: %d words", k.name, n)
			}
		}
		reads(t, slices.Concat(wordsOf(least(k)), wordsOf(least(k)))...)
	}
	if reads(t, 3, 1, 0) || reads(t, 3, 1) || reads(t, 3) || !reads(t, 3, 1, 0, 0) || reads(t, 3, 1, 0, 0, 0) || reads(t, make([]uint64, 4000)...) {
		t.Error("not four")
	}
}

// TestParseBits: P15.3, each bit turned, of each of the four words; and that no bit beyond the fields may be set.
func TestParseBits(t *testing.T) {
	for _, k := range kinds {
		for _, c := range []api.Call{least(k), most(k)} {
			for at := range 4 {
				for bit := range 64 {
					l := wordsOf(c)
					l[at] ^= 1 << bit
					is := reads(t, l...)
					if is && (at == 0 && bit >= 49 || at != 0 && at != 3 && bit >= 27) {
						t.Errorf("%x", l)
					}
					if at == 3 && is != k.value {
						t.Errorf("%x", l)
					}
				}
			}
			for bit := range 64 {
				for high := 49; high < 64; high++ {
					l := wordsOf(c)
					l[0] ^= 1<<bit | 1<<high
					reads(t, l...)
				}
			}
		}
	}
}

// TestParseFields: P15.3, words whose fields are those of calls that may not be: of every kind that the field takes, each field at all edges that it takes.
func TestParseFields(t *testing.T) {
	fields := []struct{ unit, below uint64 }{{16, 16}, {256, 16}, {4096, 65536}, {268435456, 2097152}}
	for kind := range uint64(16) {
		for _, f := range fields {
			for _, n := range edges {
				if n < 0 || uint64(n) >= f.below {
					continue
				}
				for _, b := range []uint64{0, 1, 0xc1, 5, 7, 1 << 32} {
					for _, v := range []uint64{0, 1, math.MaxUint64, 1 << 63} {
						reads(t, kind+f.unit*uint64(n), 0xc1, b, v)
						reads(t, kind+f.unit*uint64(n)+256, 1, b, v)
						reads(t, kind+f.unit*uint64(n), 0, b, v)
					}
				}
			}
		}
	}
	for first := range uint64(1 << 16) {
		reads(t, first, 1, 0, 0)
		reads(t, first, 1, 1, 0)
	}
}

// TestThereAndBack: P15.4, with unlike words for unlike calls.
func TestThereAndBack(t *testing.T) {
	seen := map[[4]uint64]api.Call{}
	for _, c := range all() {
		l, e := Put(c)
		if len(l) != 4 || e != api.OK {
			t.Fatalf("%+v: %x %v", c, l, e)
		}
		if d, e := Parse(l...); d != c || e != api.OK {
			t.Fatalf("%+v: %x: %+v %v", c, l, d, e)
		}
		if d, there := seen[[4]uint64(l)]; there {
			t.Fatalf("%+v and %+v have the words %x", c, d, l)
		}
		seen[[4]uint64(l)] = c
	}
}

// strewn is a row of numbers that follow no plain rule.
type strewn uint64

func (s *strewn) next(below int) int {
	*s = *s*6364136223846793005 + 1442695040888963407
	return int(uint64(*s>>33) % uint64(below))
}

func pick[T any](s *strewn, l ...T) T { return l[s.next(len(l))] }

// TestStrewnCalls: P15.2 to P15.4, calls of which each field is well or at fault, by turns.
func TestStrewnCalls(t *testing.T) {
	s, good := strewn(1), 0
	for range 200000 {
		k := kinds[s.next(len(kinds))]
		c := pick(&s, least(k), most(k))
		for which := range numbers {
			if s.next(6) == 0 {
				c = with(c, which, edges[s.next(len(edges))])
			}
		}
		switch s.next(8) {
		case 0:
			c.A = pick(&s, noAddresses...)
		case 1:
			c.B = pick(&s, noAddresses...)
		case 2:
			c.B = pick(&s, addresses...)
		case 3:
			c.Value = pick(&s, values...)
		case 4:
			c.Kind = pick(&s, edges...)
		}
		holds(t, c)
		if mayBe(c) {
			good++
		}
	}
	if good < 10000 || good > 190000 {
		t.Fatal("all alike:", good)
	}
}

// TestStrewnWords: P15.3, P15.4, words of calls with some bits turned, and words of no plain rule.
func TestStrewnWords(t *testing.T) {
	s, good := strewn(2), 0
	for range 200000 {
		k := kinds[s.next(len(kinds))]
		l := wordsOf(pick(&s, least(k), most(k)))
		for range s.next(4) {
			l[s.next(4)] ^= 1 << s.next(64)
		}
		if s.next(3) == 0 {
			l[0] = uint64(k.kind) | uint64(s.next(1<<31))<<4
		}
		if s.next(3) == 0 {
			l[2] = uint64(s.next(1 << 10))
		}
		if reads(t, l...) {
			good++
		}
	}
	if good < 10000 || good > 190000 {
		t.Fatal("all alike:", good)
	}
}

// TestNotChanged: the words that are handed in, and the room behind them, are as they were.
func TestNotChanged(t *testing.T) {
	const fill = 0x5555555555555555
	for _, k := range kinds {
		for n := range 7 {
			for _, c := range []api.Call{least(k), most(k), withA(most(k), 5)} {
				room := slices.Repeat([]uint64{fill}, 12)
				copy(room, wordsOf(c))
				before := slices.Clone(room)
				Parse(room[:n]...)
				if !slices.Equal(room, before) {
					t.Fatalf("%x, not %x", room, before)
				}
			}
		}
	}
}

// TestNew: what Put answers is new each time, its room too.
func TestNew(t *testing.T) {
	for _, k := range kinds {
		c := most(k)
		one, _ := Put(c)
		other, _ := Put(c)
		if len(one) != 4 || len(other) != 4 {
			t.Fatal(one, other)
		}
		for _, l := range [][]uint64{one[:cap(one)], other[:cap(other)]} {
			for i := range l {
				l[i] = uint64(i) + 77
			}
			again, e := Put(c)
			if !slices.Equal(again, wordsOf(c)) || e != api.OK {
				t.Fatalf("%+v: %x %v", c, again, e)
			}
			if &again[0] == &l[0] {
				t.Fatal("the same list")
			}
		}
		if &one[0] == &other[0] {
			t.Fatal("the same list")
		}
		l := wordsOf(c)
		d, _ := Parse(l...)
		clear(l)
		if d != c {
			t.Fatal("the words are kept", d, c)
		}
	}
}

package grab

import (
	"math"
	"slices"
	"strconv"
	"testing"

	"garrison/api"
	"garrison/cells"
)

var (
	phases = []int{api.GrTake, api.GrHave, api.GrBack, api.GrFree, api.GrDone}
	// Numbers that are no phase.
	noPhases = []int{0, 6, -1, 7, 1<<32 | 1, math.MaxInt, math.MinInt}
	// Numbers below 0.
	below = []int{-1, -2, -64, -1 << 32, math.MinInt, math.MinInt + 1}
)

// same says whether all of two Grabs is the same (nil and empty cells are).
func same(a, b api.Grab) bool {
	return a.Who == b.Who && a.Phase == b.Phase && a.At == b.At && a.Tries == b.Tries && a.Wait == b.Wait && slices.Equal(a.Cells, b.Cells)
}

func started(t *testing.T, who int, wait bool, l ...int) api.Grab {
	t.Helper()
	g, e := Start(who, wait, l...)
	if e != api.OK {
		t.Fatal(who, wait, l, e)
	}
	return g
}

// evens are n cells: 0, 2, 4 and so on.
func evens(n int) []int {
	l := make([]int, n)
	for i := range l {
		l[i] = 2 * i
	}
	return l
}

const filling = 99

// roomy has the cells of l, and room behind them that is filled.
func roomy(l ...int) []int {
	long := make([]int, len(l)+80)
	for i := range long {
		long[i] = filling
	}
	copy(long, l)
	return long[:len(l)]
}

// untouched says whether a list that roomy made is still l, and its room too.
func untouched(r []int, l ...int) bool {
	return slices.Equal(r, l) && slices.Equal(r[:cap(r)], roomy(l...)[:cap(r)])
}

// spoil writes to all of a list, and to its room.
func spoil(l []int) {
	l = l[:cap(l)]
	for i := range l {
		l[i] = -7
	}
}

// lists are all lists of at most most numbers of l, in any order, each as often as may be.
func lists(l []int, most int) [][]int {
	all := [][]int{nil}
	for from := 0; most > 0; most-- {
		end := len(all)
		for ; from < end; from++ {
			for _, n := range l {
				all = append(all, append(slices.Clone(all[from]), n))
			}
		}
	}
	return all
}

// start is what the document says of Start, of lists of cells below 10.
func start(who int, wait bool, l []int) (api.Grab, api.Errno) {
	if who < 1 || slices.ContainsFunc(l, func(c int) bool { return c < 0 }) {
		return api.Grab{}, api.ErrArg
	}
	g := api.Grab{Who: who, Wait: wait, Phase: api.GrTake}
	for c := range 10 {
		if slices.Contains(l, c) {
			g.Cells = append(g.Cells, c)
		}
	}
	if len(l) == 0 {
		g.Phase = api.GrHave
	}
	return g, api.OK
}

// TestStart: P7.1, few cells in every order, and each who.
func TestStart(t *testing.T) {
	for _, who := range append(slices.Clone(below), 0, 1, 2, 64, 65, 1<<32, math.MaxInt) {
		for _, wait := range []bool{false, true} {
			for _, l := range lists([]int{-1, 0, 1, 2, 9}, 4) {
				want, wantE := start(who, wait, l)
				if got, e := Start(who, wait, l...); e != wantE || !same(got, want) {
					t.Fatal(who, wait, l, got, e)
				}
			}
		}
	}
}

// TestStartWritten: P7.1, written out one by one.
func TestStartWritten(t *testing.T) {
	cases := []struct {
		give, want []int
	}{
		{nil, nil},
		{[]int{}, nil},
		{[]int{0}, []int{0}},
		{[]int{0, 0}, []int{0}},
		{[]int{1, 0}, []int{0, 1}},
		{[]int{4, 2}, []int{2, 4}},
		{[]int{2, 4}, []int{2, 4}},
		{[]int{9, 7, 9, 3, 7, 9}, []int{3, 7, 9}},
		{[]int{10, 9, 100, 11}, []int{9, 10, 11, 100}},
		{[]int{math.MaxInt, 1 << 32, 0, 4096, 4095}, []int{0, 4095, 4096, 1 << 32, math.MaxInt}},
	}
	for _, c := range cases {
		for _, wait := range []bool{false, true} {
			phase := api.GrTake
			if len(c.want) == 0 {
				phase = api.GrHave
			}
			want := api.Grab{Who: 3, Wait: wait, Cells: c.want, Phase: phase}
			if got := started(t, 3, wait, c.give...); !same(got, want) {
				t.Fatal(c.give, got)
			}
		}
	}
}

// TestStartMany: P7.1, cells are counted as they are handed over, and ErrArg comes ahead of ErrMany.
func TestStartMany(t *testing.T) {
	falling := evens(64)
	slices.Reverse(falling)
	for _, l := range [][]int{evens(64), falling} {
		want := api.Grab{Who: 1, Cells: evens(64), Phase: api.GrTake}
		if got := started(t, 1, false, l...); !same(got, want) {
			t.Fatal(got)
		}
	}
	if got := started(t, 1, true, make([]int, 64)...); !slices.Equal(got.Cells, []int{0}) {
		t.Fatal(got)
	}
	twice := append(evens(32), evens(33)...)
	for _, l := range [][]int{evens(65), make([]int, 65), twice, evens(66), evens(4096)} {
		for _, wait := range []bool{false, true} {
			if got, e := Start(1, wait, l...); e != api.ErrMany || !same(got, api.Grab{}) {
				t.Fatal(len(l), got, e)
			}
			if got, e := Start(0, wait, l...); e != api.ErrArg || !same(got, api.Grab{}) {
				t.Fatal(len(l), got, e)
			}
			for _, at := range []int{0, 1, 63, 64, len(l) - 1} {
				wrong := slices.Clone(l)
				wrong[at] = -1
				if got, e := Start(1, wait, wrong...); e != api.ErrArg || !same(got, api.Grab{}) {
					t.Fatal(len(l), at, got, e)
				}
			}
		}
	}
}

// TestStartWrong: P7.1, wrong holders and wrong cells, at each place of a list.
func TestStartWrong(t *testing.T) {
	for _, no := range below {
		for n := 1; n <= 64; n++ {
			l := evens(n)
			if got, e := Start(no, true, l...); e != api.ErrArg || !same(got, api.Grab{}) {
				t.Fatal(no, got, e)
			}
			l[n-1] = no
			if got, e := Start(1, true, l...); e != api.ErrArg || !same(got, api.Grab{}) {
				t.Fatal(l, got, e)
			}
			l[n-1], l[0] = 2*n, no
			if got, e := Start(1, false, l...); e != api.ErrArg || !same(got, api.Grab{}) {
				t.Fatal(l, got, e)
			}
		}
	}
}

// next is what the document says of Next.
func next(g api.Grab) (api.Op, bool) {
	if g.Phase == api.GrTake {
		for i, c := range g.Cells {
			if i == g.At {
				return api.Op{Kind: api.OpTry, Cell: c, Who: g.Who}, true
			}
		}
	}
	if g.Phase == api.GrBack || g.Phase == api.GrFree {
		for i, c := range g.Cells {
			if i+1 == g.At {
				return api.Op{Kind: api.OpFree, Cell: c, Who: g.Who}, true
			}
		}
	}
	return api.Op{}, false
}

// take is what the document says of Take.
func take(g api.Grab, ok bool) api.Grab {
	if _, is := next(g); !is {
		return g
	}
	if g.Phase == api.GrTake && ok {
		g.At++
		if g.At == len(g.Cells) {
			g.Phase = api.GrHave
		}
		return g
	}
	if g.Phase == api.GrTake {
		if !g.Wait && g.At != 0 {
			g.Phase = api.GrBack
		}
		if !g.Wait {
			g.Tries++
		}
		return g
	}
	g.At--
	if g.At == 0 && g.Phase == api.GrBack {
		g.Phase = api.GrTake
	}
	if g.At == 0 && g.Phase == api.GrFree {
		g.Phase = api.GrDone
	}
	return g
}

// free is what the document says of Free.
func free(g api.Grab) api.Grab {
	if g.Phase == api.GrHave && len(g.Cells) == 0 {
		g.Phase = api.GrDone
	}
	if g.Phase == api.GrHave {
		g.Phase = api.GrFree
	}
	return g
}

// held is what the document says of Held.
func held(g api.Grab) []int {
	var l []int
	for i, c := range g.Cells {
		if i < g.At {
			l = append(l, c)
		}
	}
	return l
}

// grabs are of all phases, with every At, that of these calls and of none.
func grabs() []api.Grab {
	var all []api.Grab
	for _, l := range [][]int{nil, {0}, {5}, {0, 1}, {2, 4, 6}, {0, 7, 4095, 1 << 32}, evens(64), {3, -1, 3}} {
		ats := append(slices.Clone(below), 1<<32, 1<<32|1, math.MaxInt-1, math.MaxInt)
		for at := range len(l) + 3 {
			ats = append(ats, at)
		}
		for _, phase := range append(slices.Clone(phases), noPhases...) {
			for _, at := range ats {
				for _, tries := range []int{0, 1, 41, -1} {
					g := api.Grab{Who: 1 + len(all)%7, Cells: l, Phase: phase, At: at, Tries: tries}
					w := g
					w.Wait = true
					all = append(all, g, w)
				}
			}
		}
	}
	return append(all, api.Grab{}, api.Grab{Who: -1, Phase: api.GrTake, Cells: []int{math.MinInt}, Tries: math.MaxInt})
}

// TestEach: P7.2 to P7.5, of Grabs in all phases with every At, without a panic.
func TestEach(t *testing.T) {
	for _, g := range grabs() {
		wantOp, wantIs := next(g)
		if o, is := Next(g); o != wantOp || is != wantIs {
			t.Fatal(g, o, is)
		}
		for _, ok := range []bool{false, true} {
			if got := Take(g, ok); !same(got, take(g, ok)) {
				t.Fatal(g, ok, got)
			}
		}
		if got := Free(g); !same(got, free(g)) {
			t.Fatal(g, got)
		}
		if got := Held(g); !slices.Equal(got, held(g)) {
			t.Fatal(g, got)
		}
	}
}

// TestNext: P7.2, written out one by one.
func TestNext(t *testing.T) {
	try := func(c int) api.Op { return api.Op{Kind: api.OpTry, Cell: c, Who: 9} }
	letGo := func(c int) api.Op { return api.Op{Kind: api.OpFree, Cell: c, Who: 9} }
	none := api.Op{}
	cases := []struct {
		phase int
		want  []api.Op // at At of -1 to 5
	}{
		{api.GrTake, []api.Op{none, try(2), try(4), try(7), none, none, none}},
		{api.GrHave, []api.Op{none, none, none, none, none, none, none}},
		{api.GrBack, []api.Op{none, none, letGo(2), letGo(4), letGo(7), none, none}},
		{api.GrFree, []api.Op{none, none, letGo(2), letGo(4), letGo(7), none, none}},
		{api.GrDone, []api.Op{none, none, none, none, none, none, none}},
		{0, []api.Op{none, none, none, none, none, none, none}},
		{6, []api.Op{none, none, none, none, none, none, none}},
	}
	for _, c := range cases {
		for i, want := range c.want {
			for _, wait := range []bool{false, true} {
				g := api.Grab{Who: 9, Cells: []int{2, 4, 7}, Phase: c.phase, At: i - 1, Tries: 3, Wait: wait}
				if o, is := Next(g); o != want || is != (want != none) {
					t.Fatal(g, o, is)
				}
			}
		}
	}
}

// walk does one thing behind the other: t, f are Take of a step that was Ok or not, F is Free.
func walk(g api.Grab, things string) api.Grab {
	for _, thing := range things {
		if thing == 'F' {
			g = Free(g)
		} else {
			g = Take(g, thing == 't')
		}
	}
	return g
}

// TestTake: P7.3 and P7.4, walks that are written out.
func TestTake(t *testing.T) {
	cases := []struct {
		wait             bool
		cells            int
		things           string
		phase, at, tries int
	}{
		{false, 3, "", api.GrTake, 0, 0},
		{false, 3, "t", api.GrTake, 1, 0},
		{false, 3, "tt", api.GrTake, 2, 0},
		{false, 3, "ttt", api.GrHave, 3, 0},
		{false, 3, "tttt", api.GrHave, 3, 0},
		{false, 3, "tttf", api.GrHave, 3, 0},
		{false, 3, "f", api.GrTake, 0, 1},
		{false, 3, "fff", api.GrTake, 0, 3},
		{false, 3, "fft", api.GrTake, 1, 2},
		{false, 3, "tf", api.GrBack, 1, 1},
		{false, 3, "tft", api.GrTake, 0, 1},
		{false, 3, "tff", api.GrTake, 0, 1},
		{false, 3, "ttf", api.GrBack, 2, 1},
		{false, 3, "ttft", api.GrBack, 1, 1},
		{false, 3, "ttff", api.GrBack, 1, 1},
		{false, 3, "ttftt", api.GrTake, 0, 1},
		{false, 3, "ttfttf", api.GrTake, 0, 2},
		{false, 3, "ttfttfttt", api.GrHave, 3, 2},
		{true, 3, "f", api.GrTake, 0, 0},
		{true, 3, "fff", api.GrTake, 0, 0},
		{true, 3, "tf", api.GrTake, 1, 0},
		{true, 3, "tfft", api.GrTake, 2, 0},
		{true, 3, "ttff", api.GrTake, 2, 0},
		{true, 3, "fftfftfft", api.GrHave, 3, 0},
		{false, 3, "F", api.GrTake, 0, 0},
		{false, 3, "tF", api.GrTake, 1, 0},
		{false, 3, "ttfF", api.GrBack, 2, 1},
		{false, 3, "tttF", api.GrFree, 3, 0},
		{false, 3, "tttFF", api.GrFree, 3, 0},
		{false, 3, "tttFt", api.GrFree, 2, 0},
		{false, 3, "tttFf", api.GrFree, 2, 0},
		{true, 3, "tttFftF", api.GrFree, 1, 0},
		{true, 3, "tttFttt", api.GrDone, 0, 0},
		{false, 3, "ftttFttf", api.GrDone, 0, 1},
		{false, 3, "tttFtttF", api.GrDone, 0, 0},
		{false, 3, "tttFtttt", api.GrDone, 0, 0},
		{false, 3, "tttFtttf", api.GrDone, 0, 0},
		{false, 1, "t", api.GrHave, 1, 0},
		{false, 1, "f", api.GrTake, 0, 1},
		{true, 1, "f", api.GrTake, 0, 0},
		{false, 1, "tF", api.GrFree, 1, 0},
		{false, 1, "tFt", api.GrDone, 0, 0},
		{false, 0, "", api.GrHave, 0, 0},
		{false, 0, "t", api.GrHave, 0, 0},
		{true, 0, "f", api.GrHave, 0, 0},
		{true, 0, "F", api.GrDone, 0, 0},
		{false, 0, "F", api.GrDone, 0, 0},
		{false, 0, "FtfF", api.GrDone, 0, 0},
	}
	for _, c := range cases {
		g := walk(started(t, 5, c.wait, evens(c.cells)...), c.things)
		want := api.Grab{Who: 5, Wait: c.wait, Cells: evens(c.cells), Phase: c.phase, At: c.at, Tries: c.tries}
		if !same(g, want) {
			t.Fatal(c.things, g)
		}
		if l := Held(g); !slices.Equal(l, evens(c.at)) {
			t.Fatal(c.things, l)
		}
	}
}

// TestExample: the chapter's example, and the same with 64 cells.
func TestExample(t *testing.T) {
	for _, l := range [][]int{{2, 4}, evens(64)} {
		falling := slices.Clone(l)
		slices.Reverse(falling)
		g := started(t, 1, true, falling...)
		for _, c := range l {
			if o, is := Next(g); !is || o != (api.Op{Kind: api.OpTry, Cell: c, Who: 1}) {
				t.Fatal(g, o, is)
			}
			g = Take(g, true)
		}
		if g.Phase != api.GrHave || !slices.Equal(Held(g), l) {
			t.Fatal(g)
		}
		g = Free(g)
		for _, c := range falling {
			if o, is := Next(g); !is || o != (api.Op{Kind: api.OpFree, Cell: c, Who: 1}) {
				t.Fatal(g, o, is)
			}
			g = Take(g, true)
		}
		if g.Phase != api.GrDone || len(Held(g)) != 0 {
			t.Fatal(g)
		}
	}
}

// TestHeld: P7.5, written out one by one.
func TestHeld(t *testing.T) {
	cases := []struct {
		at   int
		want []int
	}{
		{math.MinInt, nil}, {-1, nil}, {0, nil}, {1, []int{3}}, {2, []int{3, 5}}, {3, []int{3, 5, 8}},
		{4, []int{3, 5, 8}}, {1 << 32, []int{3, 5, 8}}, {math.MaxInt, []int{3, 5, 8}},
	}
	for _, c := range cases {
		for _, phase := range append(slices.Clone(phases), noPhases...) {
			if got := Held(api.Grab{Who: 1, Cells: []int{3, 5, 8}, Phase: phase, At: c.at}); !slices.Equal(got, c.want) {
				t.Fatal(phase, c.at, got)
			}
			if got := Held(api.Grab{Who: 1, Phase: phase, At: c.at}); len(got) != 0 {
				t.Fatal(phase, c.at, got)
			}
		}
	}
}

// TestStartList: P7.1, neither list nor room is changed or kept, whatever is written to either behind the call.
func TestStartList(t *testing.T) {
	for _, l := range lists([]int{-1, 0, 1, 2}, 4) {
		give := roomy(l...)
		got, e := Start(1, false, give...)
		want, wantE := start(1, false, l)
		if !untouched(give, l...) {
			t.Fatal(l, give)
		}
		spoil(give)
		if e != wantE || !same(got, want) {
			t.Fatal(l, got)
		}
		give = roomy(l...)
		one, _ := Start(1, false, give...)
		two, _ := Start(1, false, give...)
		spoil(one.Cells)
		if !untouched(give, l...) || !same(two, want) {
			t.Fatal(l, give, two)
		}
	}
	many := roomy(evens(65)...)
	if _, e := Start(1, false, many...); e != api.ErrMany || !untouched(many, evens(65)...) {
		t.Fatal(e, many)
	}
}

// TestLists: P7.3 to P7.5, an answer shares no cells with what was handed in, in any phase, nor with another answer.
func TestLists(t *testing.T) {
	calls := []func(api.Grab) []int{
		func(g api.Grab) []int { return Take(g, true).Cells },
		func(g api.Grab) []int { return Take(g, false).Cells },
		func(g api.Grab) []int { return Free(g).Cells },
		Held,
	}
	for _, g := range grabs() {
		l := g.Cells
		for i, call := range calls {
			give := g
			give.Cells = roomy(l...)
			one, two := call(give), call(give)
			want := slices.Clone(two)
			spoil(one)
			if !untouched(give.Cells, l...) || !slices.Equal(two, want) {
				t.Fatal(i, g, give.Cells, two)
			}
			spoil(give.Cells)
			if !slices.Equal(two, want) {
				t.Fatal(i, g, two)
			}
		}
		give := g
		give.Cells = roomy(l...)
		Next(give)
		if !untouched(give.Cells, l...) {
			t.Fatal(g, give.Cells)
		}
	}
}

// room is how many cells those who grab have before them.
const room = 6

// world is several who grab, and the cells on which their steps are done.
type world struct {
	grabs []api.Grab
	vals  []int64
}

func newWorld(t *testing.T, waits int, wants [][]int) world {
	t.Helper()
	w := world{vals: make([]int64, room)}
	for i, l := range wants {
		w.grabs = append(w.grabs, started(t, i+1, waits>>i&1 == 1, l...))
	}
	return w
}

// pick is the world when i has done its step, or lets go since it has all; the world itself stays as it is.
func (w world) pick(t *testing.T, i int) world {
	t.Helper()
	grabs, g := slices.Clone(w.grabs), w.grabs[i]
	o, is := Next(g)
	if !is {
		grabs[i] = Free(g)
		return world{grabs, w.vals}
	}
	vals, rec := cells.Apply(w.vals, o)
	if rec.Op != o {
		t.Fatal(g, o, rec)
	}
	if o.Kind == api.OpFree && !rec.Ok {
		t.Fatal("a lock was let go that was not had", g, o, rec)
	}
	grabs[i] = Take(g, rec.Ok)
	return world{grabs, vals}
}

// alone: P7.6 at this moment.
func (w world) alone(t *testing.T) {
	t.Helper()
	want := make([]int64, room)
	for _, g := range w.grabs {
		l := Held(g)
		for _, c := range l {
			if want[c] != 0 {
				t.Fatal("two hold", c, w)
			}
			want[c] = int64(g.Who)
		}
		if g.Phase == api.GrHave && !slices.Equal(l, g.Cells) {
			t.Fatal("not all are held", g)
		}
		if g.Phase == api.GrDone && len(l) != 0 {
			t.Fatal("some are still held", g)
		}
	}
	if !slices.Equal(w.vals, want) {
		t.Fatal("cells are not as they are held", w, want)
	}
}

func (w world) done() bool {
	return !slices.ContainsFunc(w.grabs, func(g api.Grab) bool { return g.Phase != api.GrDone })
}

// ends: P7.7, all are picked round by round, until all are done.
func (w world) ends(t *testing.T) {
	t.Helper()
	first := w
	for range 200 {
		if w.done() {
			return
		}
		for i := range w.grabs {
			w = w.pick(t, i)
			w.alone(t)
		}
	}
	t.Fatal("they do not end", first, w)
}

// name is all of a world but how often somebody has begun anew.
func (w world) name() string {
	var b []byte
	for _, g := range w.grabs {
		b = strconv.AppendInt(append(b, ' '), int64(g.Phase), 10)
		b = strconv.AppendInt(append(b, ' '), int64(g.At), 10)
	}
	return string(b)
}

// explore comes to every world that some order of steps comes to, and answers how many there are.
func explore(t *testing.T, w world, each func(world)) int {
	t.Helper()
	seen := map[string]bool{w.name(): true}
	for todo := []world{w}; len(todo) > 0; {
		now := todo[len(todo)-1]
		todo = todo[:len(todo)-1]
		each(now)
		for i := range now.grabs {
			behind := now.pick(t, i)
			if !seen[behind.name()] {
				seen[behind.name()] = true
				todo = append(todo, behind)
			}
		}
	}
	return len(seen)
}

// wants are all rising lists of cells below n.
func wants(n int) [][]int {
	var all [][]int
	for set := range 1 << n {
		var l []int
		for c := range n {
			if set>>c&1 == 1 {
				l = append(l, c)
			}
		}
		all = append(all, l)
	}
	return all
}

// TestTwoAllOrders: P7.6 and P7.7, two who want the same locks, some of them, none of them: in every order of steps, and from wherever that leads round by round to the end.
func TestTwoAllOrders(t *testing.T) {
	most := 0
	for waits := range 4 {
		for _, a := range wants(3) {
			for _, b := range wants(3) {
				n := explore(t, newWorld(t, waits, [][]int{a, b}), func(w world) {
					w.alone(t)
					w.ends(t)
				})
				most = max(most, n)
			}
		}
	}
	if most < 20 {
		t.Fatal("too few orders", most)
	}
}

// TestThreeAllOrders: P7.6 and P7.7, the same with three.
func TestThreeAllOrders(t *testing.T) {
	for waits := range 8 {
		for _, l := range [][][]int{
			{{0, 1}, {1, 2}, {2, 0}},
			{{0, 1, 2}, {0, 1, 2}, {2, 1, 0}},
			{{0, 1}, {1, 0}, {1}},
			{{0}, {1, 2}, {0, 1, 2, 3}},
			{{0, 5}, {1, 4, 5}, {1, 0}},
			{{}, {3, 0}, {0, 3}},
			{{0, 1}, {2, 3}, {4, 5}},
		} {
			explore(t, newWorld(t, waits, l), func(w world) {
				w.alone(t)
				w.ends(t)
			})
		}
	}
}

// TestManyOrders: P7.6 and P7.7, up to six who want many locks, in orders of steps made by a rule, and then round by round to the end.
func TestManyOrders(t *testing.T) {
	sets := wants(room)
	seed := uint32(1)
	// roll is the next number of a fixed row, below n.
	roll := func(n int) int {
		seed = seed*1664525 + 1013904223
		return int(seed>>16) % n
	}
	for range 2000 {
		var l [][]int
		for range 2 + roll(5) {
			l = append(l, sets[roll(len(sets))])
		}
		w := newWorld(t, roll(1<<len(l)), l)
		for range roll(60) {
			w = w.pick(t, roll(len(l)))
			w.alone(t)
		}
		w.ends(t)
	}
}

// TestBeginAnew: P7.3 and P7.7, one who goes back lets another one have what it held.
func TestBeginAnew(t *testing.T) {
	w := newWorld(t, 0, [][]int{{0, 1}, {1, 2}, {0}})
	for _, i := range []int{0, 1, 0, 2, 0, 2} {
		w = w.pick(t, i)
		w.alone(t)
	}
	if g := w.grabs[0]; g.Phase != api.GrTake || g.At != 0 || g.Tries != 1 {
		t.Fatal(g)
	}
	if g := w.grabs[2]; g.Phase != api.GrHave || g.Tries != 1 {
		t.Fatal(g)
	}
	w.ends(t)
}

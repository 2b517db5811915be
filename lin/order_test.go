package lin

import (
	"math"
	"slices"
	"testing"

	"garrison/api"
)

// answers is an event that answers these cores, whatever they are answered.
func answers(stamp int, cores ...int) api.Event {
	e := event(api.EvDo, 0, look(0), stamp)
	for _, core := range cores {
		e.Replies = append(e.Replies, done(core, api.Reply{Value: int64(stamp)}))
	}
	return e
}

// lasts is a span of which nothing is asked but its core, and when it was.
func lasts(core, start, end int) api.Span { return over(core, look(1), start, end, api.Reply{}) }

// orders has Order answer that, here and in the chapter's second telling.
func orders(t *testing.T, h api.History, want []int) {
	t.Helper()
	if l := Order(h); !slices.Equal(l, want) {
		t.Errorf("%+v: %v, not %v", h, l, want)
	}
	if l := toldOrder(h); !slices.Equal(l, want) {
		t.Errorf("%+v is told as %v", h, l)
	}
}

// TestOrder: P20.3, written out.
func TestOrder(t *testing.T) {
	three := spans(lasts(0, 1, 9), lasts(1, 2, 8), lasts(2, 3, 7))
	for _, c := range []struct {
		s    []api.Span
		e    []api.Event
		want []int
	}{
		{nil, nil, nil},
		{nil, events(answers(1, 0)), nil},
		{three, nil, nil},
		{three, events(answers(4)), nil},
		{three, events(answers(4, 0), answers(5, 1), answers(6, 2)), []int{0, 1, 2}},
		{three, events(answers(4, 2), answers(5, 1), answers(6, 0)), []int{2, 1, 0}},
		{three, events(answers(4, 1), answers(5, 2), answers(6, 0)), []int{1, 2, 0}},
		{three, events(answers(4, 2, 1, 0)), []int{0, 1, 2}}, // those of one event: by their places
		{three, events(answers(4, 2, 0), answers(5, 1)), []int{0, 2, 1}},
		{three, events(answers(4, 1), answers(5, 2, 0)), []int{1, 0, 2}},
		{three, events(answers(3, 2, 2, 1, 2)), []int{1, 2}},
		{three, events(answers(4, 1), answers(5, 0), answers(6, 1)), []int{1, 0}}, // by the first one
		{three, events(answers(4, 0, 0), answers(5, 1), answers(6, 0, 1)), []int{0, 1}},
		{three, events(answers(1, 2, 1, 0)), []int{0}}, // of the others, nothing is inside
		{three, events(answers(1, 1), answers(2, 0), answers(3, 1)), []int{0, 1}},
		{three, events(answers(9, 0, 1, 2)), []int{0}},
		{three, events(answers(7, 2), answers(8, 1), answers(9, 0)), []int{2, 1, 0}},
		{three, events(answers(8, 2), answers(9, 1), answers(10, 0)), nil},
		{three, events(answers(4, 3), answers(5, -1), answers(6, 64)), nil},
		{spans(lasts(0, 1, 0), lasts(1, 1, 4)), events(answers(2, 0), answers(3, 1)), []int{1}}, // an open one
		{spans(lasts(0, 1, 0)), events(answers(2, 0)), nil},
		{spans(lasts(0, 1, 2), lasts(0, 3, 4), lasts(0, 5, 6)), events(answers(1, 0), answers(4, 0), answers(5, 0)), []int{0, 1, 2}},
		{spans(lasts(0, 1, 2), lasts(0, 3, 4), lasts(0, 5, 0)), events(answers(3, 0), answers(4, 0), answers(5, 0)), []int{1}},
		{spans(lasts(0, 1, 1)), events(answers(1, 0)), []int{0}},
		{spans(lasts(63, math.MaxInt, math.MaxInt)), events(answers(math.MaxInt, 63)), []int{0}},
		{three, events(event(api.EvFree, 9, api.Call{}, 5, ok(1)), event(api.EvTurn, 9, api.Call{}, 6, ok(0))), []int{1, 0}}, // of whatever Kind
	} {
		orders(t, history(c.s, c.e), c.want)
	}
}

// TestOrderOfOthers: P20.3 of histories that hist.Check refuses: by its words.
func TestOrderOfOthers(t *testing.T) {
	for _, c := range []struct {
		s    []api.Span
		e    []api.Event
		want []int
	}{
		{spans(lasts(0, 1, 9), lasts(1, 1, 9)), events(answers(7, 0), answers(2, 0), answers(5, 1)), []int{1, 0}}, // the first one is not the earliest
		{spans(lasts(0, 1, 9), lasts(1, 1, 9)), events(answers(5, 1), answers(5, 0)), []int{0, 1}},
		{spans(lasts(0, 1, 5), lasts(0, 2, 6)), events(answers(3, 0)), []int{0, 1}}, // both are inside
		{spans(lasts(0, 1, 5), lasts(0, 2, 6)), events(answers(6, 0), answers(1, 0)), []int{0, 1}},
		{spans(lasts(0, 1, 4), lasts(0, 2, 6)), events(answers(6, 0), answers(3, 0)), []int{0, 1}},
		{spans(lasts(0, 5, 3)), events(answers(3, 0), answers(4, 0), answers(5, 0)), nil},
		{spans(lasts(-1, 1, 5), lasts(64, 1, 5)), events(answers(2, 64), answers(3, -1)), []int{1, 0}},
		{spans(lasts(0, -5, -3), lasts(0, -9, 0)), events(answers(-4, 0)), []int{0}},
		{spans(lasts(math.MinInt, math.MinInt, math.MaxInt), lasts(math.MinInt, math.MinInt, math.MinInt)), events(answers(math.MinInt, math.MinInt)), []int{0, 1}},
		{spans(lasts(0, math.MinInt, math.MaxInt), lasts(1, math.MinInt, math.MaxInt)), events(answers(math.MaxInt, 0), answers(math.MinInt, 1)), []int{1, 0}},
	} {
		orders(t, history(c.s, c.e), c.want)
	}
}

// TestSmallOrders: P20.3 of all small histories, those that hist.Check refuses too.
func TestSmallOrders(t *testing.T) {
	var l []api.Span
	for core := range 2 {
		for start := 1; start <= 3; start++ {
			for end := range 4 {
				l = append(l, lasts(core, start, end))
			}
		}
	}
	var m []api.Event
	for stamp := 1; stamp <= 3; stamp++ {
		m = append(m, answers(stamp), answers(stamp, 0), answers(stamp, 1), answers(stamp, 1, 0), answers(stamp, 0, 0))
	}
	lengths := [3]int{}
	for _, a := range l {
		for _, b := range l {
			for _, e := range m {
				for _, f := range m {
					h := history(spans(a, b), events(e, f))
					got := Order(h)
					if !slices.Equal(got, toldOrder(h)) {
						t.Fatalf("%+v: %v, not %v", h, got, toldOrder(h))
					}
					lengths[len(got)]++
				}
			}
		}
	}
	if slices.Min(lengths[:]) < 1000 {
		t.Fatal("too few", lengths)
	}
}

// TestRespects: P20.3, written out.
func TestRespects(t *testing.T) {
	l := spans(lasts(0, 1, 2), lasts(1, 2, 5), lasts(2, 3, 3), lasts(0, 4, 0), lasts(1, 6, 7)) // 0 is ahead of 2, 3, 4; 1 of 4; 2 of 3, 4; 3 of none
	for _, c := range []struct {
		l    []int
		want bool
	}{
		{nil, true}, {[]int{}, true},
		{[]int{0}, true}, {[]int{4}, true}, {[]int{3}, true},
		{[]int{-1}, false}, {[]int{5}, false}, {[]int{0, -1}, false}, {[]int{0, 5}, false}, {[]int{5, 0}, false}, {[]int{-1, 4}, false},
		{[]int{math.MinInt}, false}, {[]int{math.MaxInt}, false}, {[]int{0, 1, math.MinInt}, false}, {[]int{1 << 32}, false}, {[]int{-1 << 32}, false},
		{[]int{0, 0}, false}, {[]int{3, 3}, false}, {[]int{0, 1, 0}, false}, {[]int{0, 1, 2, 2}, false}, {[]int{1, 1, 2}, false},
		{[]int{0, 1, 2, 3, 4}, true}, {[]int{1, 0, 2, 3, 4}, true}, {[]int{0, 2, 1, 3, 4}, true}, {[]int{0, 2, 1, 4, 3}, true}, {[]int{0, 2, 3, 1, 4}, true},
		{[]int{0, 1}, true}, {[]int{1, 0}, true}, // 1 begins when 0 ends
		{[]int{2, 0}, false}, {[]int{3, 0}, false}, {[]int{4, 0}, false}, {[]int{4, 1}, false}, {[]int{3, 2}, false}, {[]int{4, 2}, false},
		{[]int{1, 2}, true}, {[]int{2, 1}, true}, {[]int{1, 3}, true}, {[]int{3, 1}, true},
		{[]int{3, 4}, true}, {[]int{4, 3}, true}, // an open one is ahead of none
		{[]int{2, 1, 0}, false}, {[]int{1, 2, 0}, false}, {[]int{1, 4, 0}, false}, {[]int{1, 4, 3, 2}, false}, {[]int{4, 3, 1}, false}, {[]int{1, 2, 3, 4, 0}, false},
		{[]int{0, 1, 2, 3, 4, 0}, false}, {[]int{0, 1, 2, 3, 4, 5}, false}, {[]int{0, 1, 2, 3, 4, -1}, false},
	} {
		h := history(l, events(answers(5, 1), answers(1, 0))) // events have no part in it
		if got := Respects(h, c.l); got != c.want {
			t.Error(c.l, got)
		}
		if toldRespects(h, c.l) != c.want {
			t.Error(c.l, "is told otherwise")
		}
	}
	for _, at := range append([]int{-1, 0, 1}, ends...) {
		if Respects(api.History{}, []int{at}) {
			t.Error("there is none", at)
		}
	}
	if !Respects(api.History{}, nil) || !Respects(api.History{}, []int{}) {
		t.Error("nothing")
	}
}

// TestSmallRespects: P20.3 of all small histories, and all short lists.
func TestSmallRespects(t *testing.T) {
	var l []api.Span
	for start := -1; start <= 2; start++ {
		for _, end := range []int{-2, 0, 1, 2} {
			l = append(l, lasts(len(l)%3, start, end))
		}
	}
	lists := [][]int{nil}
	for i := 0; i < 1+5+25; i++ {
		for at := -1; at <= 3; at++ {
			lists = append(lists, append(slices.Clone(lists[i]), at))
		}
	}
	counts := [2]int{}
	for _, a := range l {
		for _, b := range l {
			for _, c := range l {
				h := history(spans(a, b, c), nil)
				for _, one := range lists {
					got := Respects(h, one)
					if got != toldRespects(h, one) {
						t.Fatalf("%+v, %v: %v", h, one, got)
					}
					if got {
						counts[1]++
					} else {
						counts[0]++
					}
				}
			}
		}
	}
	if slices.Min(counts[:]) < 10000 || len(lists[len(lists)-1]) != 3 {
		t.Fatal("too few", counts)
	}
}

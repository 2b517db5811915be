package grant

import (
	"math"
	"reflect"
	"slices"
	"testing"

	"garrison/api"
)

// busy is a state in which much has happened: nodes in nodes, cores that wait, places that wait, a revocation.
func busy(t *testing.T) api.State {
	t.Helper()
	s := begun(t, slices.Concat(shared, deeds(retype(0, api.TyNode, 2, 1), retype(1, api.TyFrame, 2, 1, 7), retype(0, api.TyNotice, 3), retype(0, api.TyFrame, 4), recv(3, 2, 1, 0), recv(1, 7)))...)
	s.Sweeps[2] = api.Sweep{On: true, Key: key(0, 2)}
	return s
}

// askAll calls all that the package has.
func askAll(s, t api.State, core int, l []api.Key, h []api.Hold, cores []int) []any {
	var one api.Hold
	if len(h) > 0 {
		one = h[len(h)-1]
	}
	return []any{Reach(s, core), Holds(s, l), Lent(s, core), Covers(h, one), Gained(s, t), Confined(s, t, cores...)}
}

// TestWrongStates: on states that came of no call, calls end, and do not panic.
func TestWrongStates(t *testing.T) {
	first := busy(t)
	turns := []func(*api.State){
		func(s *api.State) { *s = api.State{} },
		func(s *api.State) { s.Nodes = nil },
		func(s *api.State) { s.Nodes = s.Nodes[:1] },
		func(s *api.State) { s.Nodes = slices.Concat(s.Nodes, s.Nodes, make([][]api.Cap, 2000)) },
		func(s *api.State) { s.Nodes[8] = s.Nodes[8][:7] },
		func(s *api.State) { s.Nodes[0] = append(s.Nodes[0], api.Cap{Type: api.TyNode, Rights: 15, Obj: 1}) },
		func(s *api.State) { s.Nodes[0] = nil },
		func(s *api.State) { s.Nodes[0][2].Obj = math.MinInt },
		func(s *api.State) { s.Nodes[0][2].Obj, s.Nodes[0][2].Gen = math.MaxInt, -1 },
		func(s *api.State) { s.Nodes[0][2].Rights = math.MaxInt },
		func(s *api.State) { s.Nodes[0][2].Rights = -1 },
		func(s *api.State) { s.Roots = nil },
		func(s *api.State) { s.Roots[0], s.Roots[1], s.Roots[3] = -1, math.MaxInt, 24 },
		func(s *api.State) { s.Ports = nil },
		func(s *api.State) {
			s.Ports = append(s.Ports, api.Port{Kind: 9, Queue: []api.Waiter{{Core: 0, Has: true, Slot: key(math.MinInt, 99)}, {Core: math.MaxInt, Has: true}, {Core: -1, Has: true, Slot: key(1024, -5)}}})
		},
		func(s *api.State) { s.Arena = api.Arena{} },
		func(s *api.State) { s.Arena.Things = s.Arena.Things[:1] },
		func(s *api.State) { s.Arena.Free = [][]int{{-1, math.MinInt, 8, 8}} },
		func(s *api.State) { s.Arena.Things[8] = api.Thing{Type: math.MaxInt, Gen: math.MinInt} },
		func(s *api.State) { s.Tree, s.Limbo, s.Sweeps = nil, nil, nil },
	}
	l := append(slots(0, 8, 23), key(-1, 0), key(0, -1), key(0, 8), key(24, 0))
	for _, a := range ends {
		for _, b := range append(ends, 0, 7, 8, -1) {
			l = append(l, key(a, b), key(b, a))
		}
	}
	h := holds(hold(2, 0, 15), hold(math.MinInt, math.MaxInt, -1), hold(1<<62, -1, 16))
	who := append(cores(0, 1, 2, 3, 4, -1, 64, 0), ends...)
	for i, turn := range turns {
		s := whole(first)
		turn(&s)
		for _, core := range who {
			for _, two := range [][2]api.State{{s, first}, {first, s}, {s, s}, {s, {}}, {{}, s}} {
				askAll(two[0], two[1], core, l, h, who)
				askAll(two[0], two[1], core, nil, nil, nil)
			}
		}
		if len(Gained(s, s)) > 0 || !Confined(s, s) {
			t.Error(i)
		}
	}
}

// TestNoNodes: P21.1 of capabilities that lead to no slots: of other types, without rights that there are, to what has other than 8 slots.
func TestNoNodes(t *testing.T) {
	for _, x := range []struct {
		name string
		turn func(*api.State)
		want []int
	}{
		{"as it was", func(*api.State) {}, cores(0, 8, 12)},
		{"an untyped one", func(s *api.State) { s.Nodes[0][2].Type = api.TyUntyped }, cores(0)},
		{"a frame", func(s *api.State) { s.Nodes[8][1].Type = api.TyFrame }, cores(0, 8)},
		{"an endpoint", func(s *api.State) { s.Nodes[8][1].Type = api.TyEndpoint }, cores(0, 8)},
		{"no type", func(s *api.State) { s.Nodes[0][2].Type = api.TyNone }, cores(0)},
		{"no rights", func(s *api.State) { s.Nodes[0][2].Rights = 17 }, cores(0)},
		{"to an object that is no node", func(s *api.State) { s.Nodes[8][1].Obj = 4 }, cores(0, 8)},
		{"to what there is not", func(s *api.State) { s.Nodes[0][2].Obj = 24 }, cores(0)},
		{"to another core's node", func(s *api.State) { s.Nodes[8][1].Obj = 1 }, cores(0, 1, 8)},
		{"with a guard", func(s *api.State) { s.Nodes[0][2].Badge, s.Nodes[8][1].Badge = 7, 1 }, cores(0, 8, 12)},
		{"7 slots", func(s *api.State) { s.Nodes[8] = s.Nodes[8][:7] }, cores(0)},
		{"its own, of 9 slots", func(s *api.State) { s.Nodes[0] = make([]api.Cap, 9) }, nil},
	} {
		s := whole(busy(t))
		s.Nodes[1][2] = api.Cap{} // core 1's way to place 8
		x.turn(&s)
		if l := Reach(s, 0); !slices.Equal(l, slots(x.want...)) {
			t.Errorf("%s: %v", x.name, l)
		}
	}
}

// TestNothingIsChanged: what is handed in is as it was behind each call, its spare room too; what is answered hangs on that alone, and shares nothing with it, nor with another answer.
func TestNothingIsChanged(t *testing.T) {
	before, after := busy(t), begun(t, again(api.TyNode)[:4]...)
	for _, two := range [][2]api.State{{before, after}, {after, before}, {before, before}, {api.State{}, before}} {
		for core := -1; core < 6; core++ {
			s, n := roomy(two[0]), roomy(two[1])
			l, who := roomy(slots(8, 0, 8, 4)), roomy(cores(core, 3, 1, core))
			h := roomy(toldHolds(s, l))
			was := []any{whole(s), whole(n), whole(l), whole(who), whole(h)}
			want := askAll(s, n, core, l, h, who)
			if is := []any{whole(s), whole(n), whole(l), whole(who), whole(h)}; !reflect.DeepEqual(is, was) {
				t.Fatal(is, was)
			}
			texts := []any{whole(want[0].([]api.Key)), whole(want[1].([]api.Hold)), whole(want[2].([]api.Key)), whole(want[4].([]api.Key))}
			scribble(Reach(s, core), key(9, 9))
			scribble(Lent(s, core), key(9, 9))
			scribble(Gained(s, n), key(9, 9))
			scribble(Holds(s, l), hold(9, 9, 9))
			if is := []any{whole(s), whole(n), whole(l), whole(who), whole(h)}; !reflect.DeepEqual(is, was) {
				t.Fatal("shared", is, was)
			}
			if is := []any{whole(want[0].([]api.Key)), whole(want[1].([]api.Hold)), whole(want[2].([]api.Key)), whole(want[4].([]api.Key))}; !reflect.DeepEqual(is, texts) {
				t.Fatal("shared with an earlier answer", is, texts)
			}
			if is := askAll(s, n, core, l, h, who); !reflect.DeepEqual(is, want) {
				t.Fatal("another answer", is, want)
			}
		}
	}
}

// scribble writes over a list, and over the room behind it.
func scribble[T any](l []T, with T) {
	l = l[:cap(l)]
	for i := range l {
		l[i] = with
	}
}

// TestManyCores: P21.4 of as many cores as there can be, each of them many times.
func TestManyCores(t *testing.T) {
	s := busy(t)
	n := after(t, s, deeds(mint(0, by(0), by(2, 4), 3, 0)))
	many := slices.Repeat(cores(1, 3, -1, 64, math.MaxInt), 20000)
	if Confined(s, n, many...) || !Confined(s, n, append(many, 2)...) || !Confined(s, n, append(cores(0), many...)...) {
		t.Fatal("many cores")
	}
}

// TestNoneIsEmpty: nil and an empty list are the same where they are handed in.
func TestNoneIsEmpty(t *testing.T) {
	s := busy(t)
	n := after(t, s, deeds(mint(0, by(0), by(6), 3, 0)))
	empty := whole(s)
	empty.Nodes[4] = []api.Cap{}
	empty.Ports[0].Queue = []api.Waiter{}
	if len(Holds(s, []api.Key{})) > 0 || Covers([]api.Hold{}, api.Hold{}) || Confined(s, n, []int{}...) || len(Gained(s, empty)) > 0 || len(Gained(empty, s)) > 0 || !Confined(empty, n, 0) {
		t.Fatal("empty lists")
	}
	for core := range 4 {
		if !slices.Equal(Reach(s, core), Reach(empty, core)) || !slices.Equal(Lent(s, core), Lent(empty, core)) {
			t.Error(core)
		}
	}
}

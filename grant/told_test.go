package grant

import (
	"math"
	"reflect"
	"slices"
	"testing"

	"garrison/addr"
	"garrison/api"
	"garrison/model"
)

// ends are numbers at the ends of int, and such as are small again if bits of them are lost.
var ends = []int{math.MinInt, math.MinInt + 1, math.MaxInt, math.MaxInt - 1, 1 << 31, -1 << 31, 1 << 32, 1<<32 + 1, 1<<32 + 2, -1 << 32, 1<<62 + 1, -1 << 62}

// to is an address of these slots, with guards 0.
func to(l ...int) uint64 {
	var steps []api.Step
	for _, i := range l {
		steps = append(steps, api.Step{Index: i})
	}
	w, _ := addr.Put(steps...)
	return w
}

// by is a way by slots.
func by(l ...int) []int { return l }

func key(obj, slot int) api.Key { return api.Key{Obj: obj, Slot: slot} }

func keys(l ...api.Key) []api.Key { return l }

func hold(obj, gen, rights int) api.Hold { return api.Hold{Obj: obj, Gen: gen, Rights: rights} }

func holds(l ...api.Hold) []api.Hold { return l }

func cores(l ...int) []int { return l }

// slots are all those of these nodes.
func slots(nodes ...int) []api.Key {
	var l []api.Key
	for _, obj := range nodes {
		for i := range 8 {
			l = append(l, key(obj, i))
		}
	}
	return l
}

// deed is a call by a core.
type deed struct {
	core int
	call api.Call
}

func deeds(l ...deed) []deed { return l }

// The calls of a core, in short forms: from and to are ways by slots, from the core's own node on.

func retype(core, kind int, b ...int) deed {
	return deed{core, api.Call{Kind: api.CaRetype, A: to(0), B: to(b...), Type: kind}}
}

func mint(core int, a, b []int, rights, badge int) deed {
	return deed{core, api.Call{Kind: api.CaMint, A: to(a...), B: to(b...), Rights: rights, Badge: badge}}
}

func move(core int, a, b []int) deed {
	return deed{core, api.Call{Kind: api.CaMove, A: to(a...), B: to(b...)}}
}

func erase(core int, a ...int) deed {
	return deed{core, api.Call{Kind: api.CaDelete, A: to(a...)}}
}

func revoke(core int, a ...int) deed {
	return deed{core, api.Call{Kind: api.CaRevoke, A: to(a...)}}
}

// send and recv are at the endpoint that each domain has, with what is at a way.

func send(core int, b ...int) deed {
	return deed{core, api.Call{Kind: api.CaSend, A: to(1), B: to(b...)}}
}

func recv(core int, b ...int) deed {
	return deed{core, api.Call{Kind: api.CaRecv, A: to(1), B: to(b...)}}
}

// after is s behind these calls; none of them may be refused. What has died is given back at once.
func after(t *testing.T, s api.State, l []deed) api.State {
	t.Helper()
	for _, d := range l {
		n, done := model.Do(s, d.core, d.call)
		for _, one := range done {
			if one.Core == d.core && one.Reply.Code != api.OK {
				t.Fatal(d, one)
			}
		}
		for ok := true; ok; {
			n, _, ok = model.Free(n, d.core)
		}
		s = n
	}
	return s
}

// begun is a state of four cores: 0 and 2 begin at node 0, 1 and 3 at node 1. The objects 2 and 3 are their memory, in slot 0, the object 4 is an endpoint, in slot 1 of both. The first places that are free for a core are 8, 12, 16, 20 for 0; 5, 9 for 1; 6, 10 for 2; 7, 11 for 3.
func begun(t *testing.T, l ...deed) api.State {
	t.Helper()
	s, e := model.New(4, 24, 4096, 2)
	if e != api.OK {
		t.Fatal(e)
	}
	return after(t, s, l)
}

// What follows is a second telling of the chapter, word by word.

// toldReach looks through all nodes, time and again, until there is none that was not reached ahead of that.
func toldReach(s api.State, core int) []api.Key {
	if core < 0 || core >= len(s.Roots) {
		return nil
	}
	reached := map[int]bool{s.Roots[core]: true}
	for more := true; more; {
		was := len(reached)
		for obj, node := range s.Nodes {
			for _, c := range node {
				if reached[obj] && c.Type == 2 && c.Rights%2 == 1 {
					reached[c.Obj] = true
				}
			}
		}
		more = len(reached) > was
	}
	var l []api.Key
	for obj, node := range s.Nodes {
		for i := range node {
			if reached[obj] {
				l = append(l, key(obj, i))
			}
		}
	}
	return l
}

func toldLent(s api.State, core int) []api.Key {
	var l []api.Key
	for _, p := range s.Ports {
		for _, w := range p.Queue {
			if w.Has && w.Core == core {
				l = append(l, w.Slot)
			}
		}
	}
	return l
}

// toldAt is what a slot has; nothing, if there is no such slot.
func toldAt(s api.State, k api.Key) api.Cap {
	if k.Obj < 0 || k.Obj >= len(s.Nodes) || k.Slot < 0 || k.Slot >= len(s.Nodes[k.Obj]) {
		return api.Cap{}
	}
	return s.Nodes[k.Obj][k.Slot]
}

func toldHolds(s api.State, l []api.Key) []api.Hold {
	var all []api.Hold
	for _, k := range l {
		if c := toldAt(s, k); c != (api.Cap{}) {
			all = append(all, api.Hold{Obj: c.Obj, Gen: c.Gen, Rights: c.Rights})
		}
	}
	return all
}

func toldCovers(l []api.Hold, h api.Hold) bool {
	return slices.ContainsFunc(l, func(one api.Hold) bool {
		return one.Obj == h.Obj && one.Gen == h.Gen && one.Rights|h.Rights == one.Rights
	})
}

func toldGained(s, t api.State) []api.Key {
	var l []api.Key
	for obj, node := range t.Nodes {
		for i, c := range node {
			if c != (api.Cap{}) && c != toldAt(s, key(obj, i)) {
				l = append(l, key(obj, i))
			}
		}
	}
	return l
}

func toldNew(s, t api.State, obj int) bool {
	was, is := s.Arena.Things[obj], t.Arena.Things[obj]
	return is.Type > 0 && (was.Type == 0 || was.Gen != is.Gen)
}

// toldConfined asks of each slot that has gained something each core.
func toldConfined(s, t api.State, cores []int) bool {
	for _, k := range toldGained(s, t) {
		h := toldHolds(t, []api.Key{k})[0]
		placed, had := toldNew(s, t, k.Obj), toldNew(s, t, h.Obj)
		for _, core := range cores {
			l := slices.Concat(toldReach(s, core), toldLent(s, core))
			placed = placed || slices.Contains(l, k)
			had = had || toldCovers(toldHolds(s, l), h)
		}
		if !placed || !had {
			return false
		}
	}
	return true
}

// roomy is v in memory of its own, with spare room behind each list of it that is not empty, in which there is something.
func roomy[T any](v T) T {
	as := func(l reflect.Value) reflect.Value { return l }
	more := func(l reflect.Value) reflect.Value {
		if n := l.Len(); n > 0 {
			return reflect.Append(l, l.Index(n-1)).Slice(0, n)
		}
		return l
	}
	return built(reflect.ValueOf(v), as, more).Interface().(T)
}

// whole is v in memory of its own, with the room of all of its lists as a part of them.
func whole[T any](v T) T {
	all := func(l reflect.Value) reflect.Value { return l.Slice(0, l.Cap()) }
	as := func(l reflect.Value) reflect.Value { return l }
	return built(reflect.ValueOf(v), all, as).Interface().(T)
}

// built is v anew, each list of it as before makes it ahead of that, and behind makes it then.
func built(v reflect.Value, before, behind func(reflect.Value) reflect.Value) reflect.Value {
	own := reflect.New(v.Type()).Elem()
	switch v.Kind() {
	case reflect.Slice:
		l := before(v)
		for i := range l.Len() {
			own = reflect.Append(own, built(l.Index(i), before, behind))
		}
		return behind(own)
	case reflect.Struct:
		for i := range v.NumField() {
			own.Field(i).Set(built(v.Field(i), before, behind))
		}
		return own
	}
	return v
}

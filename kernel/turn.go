package kernel

import (
	"garrison/api"
	"garrison/order"
	"garrison/tree"
	"slices"
)

// whole is the Slot of an object's own key.
const whole = -1

// turns is what a turn of a revocation has to do with: P19.4.
func turns(s api.State, x api.Sweep) []api.Key {
	slots := []api.Key{x.Key}
	var objs []api.Key
	if at, ok := aim(s.Tree, x); ok {
		k := s.Tree[at].Key
		slots = append(slots, around(s.Tree, at)...)
		objs = append(objs, api.Key{Obj: s.Nodes[k.Obj][k.Slot].Obj, Slot: whole})
	}
	for _, k := range slots {
		objs = append(objs, api.Key{Obj: k.Obj, Slot: whole})
	}
	l, _ := order.Sort(append(slots, objs...)...)
	return l
}

// aim is the place in the tree of what the turn marks, or takes away; of a sweep that is lost, and behind the last turn, there is none.
func aim(t []api.Branch, x api.Sweep) (int, bool) {
	below := len(tree.Below(t, x.Key))
	if x.Lost || below == 0 {
		return 0, false
	}
	at, _ := tree.Find(t, x.Key)
	unmarked := func(b api.Branch) bool { return !b.Mark }
	if i := slices.IndexFunc(t[at+1:][:below], unmarked); i >= 0 {
		return at + 1 + i, true
	}
	return at + below, true
}

// around is the branch at that place, and those right ahead of and behind it.
func around(t []api.Branch, at int) []api.Key {
	var l []api.Key
	for _, b := range t[max(0, at-1):min(len(t), at+2)] {
		l = append(l, b.Key)
	}
	return l
}

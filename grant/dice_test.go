package grant

import (
	"slices"

	"garrison/addr"
	"garrison/api"
	"garrison/model"
)

// dice are numbers that look like chance, the same each time.
type dice uint64

func (d *dice) upTo(n int) int {
	*d = *d*6364136223846793005 + 1442695040888963407
	return int(uint64(*d) >> 33 % uint64(n))
}

func (d *dice) one(l ...int) int { return l[d.upTo(len(l))] }

// spot is a slot that an address leads to, what is there, and whether something was derived from it.
type spot struct {
	word uint64
	has  api.Cap
	kids bool
}

// spots are the slots that a core's addresses of at most three steps lead to.
func spots(s api.State, core int) []spot {
	var l []spot
	var walk func(node int, way []int)
	walk = func(node int, way []int) {
		for i, c := range s.Nodes[node] {
			on := append(slices.Clone(way), i)
			l = append(l, spot{to(on...), c, hasKids(s.Tree, key(node, i))})
			if c.Type == api.TyNode && c.Rights&api.Read > 0 && len(on) < 3 {
				walk(c.Obj, on)
			}
		}
	}
	walk(s.Roots[core], nil)
	return l
}

func hasKids(l []api.Branch, k api.Key) bool {
	at := slices.IndexFunc(l, func(b api.Branch) bool { return b.Key == k })
	return at >= 0 && at+1 < len(l) && l[at+1].Depth > l[at].Depth
}

func nothing(c api.Cap) bool { return c == api.Cap{} }

func anything(c api.Cap) bool { return c != api.Cap{} }

func typed(kind int) func(api.Cap) bool { return func(c api.Cap) bool { return c.Type == kind } }

// to leads to one of those slots that have such a thing; from time to time, or if there is none, to any.
func (d *dice) to(l []spot, such func(api.Cap) bool) uint64 {
	fits := slices.DeleteFunc(slices.Clone(l), func(x spot) bool { return !such(x.has) })
	if len(fits) == 0 || d.upTo(16) == 0 {
		return to(d.upTo(8), d.upTo(8))
	}
	return fits[d.upTo(len(fits))].word
}

func (d *dice) maybe(w uint64) uint64 {
	if d.upTo(4) == 0 {
		return 0
	}
	return w
}

// call is one of each kind, mostly such that it can be done as things are.
func (d *dice) call(s api.State, core int) api.Call {
	l := spots(s, core)
	some, none := d.to(l, anything), d.to(l, nothing)
	made := some // mostly none of what a domain begins with, which never comes back
	if d.upTo(12) > 0 {
		made = d.to(l[2:], anything)
	}
	switch d.upTo(36) {
	case 0, 1, 2, 3, 4, 5:
		if d.upTo(2) == 0 {
			some = d.to(l[2:], anything)
		}
		return api.Call{Kind: api.CaMint, A: some, B: none, Rights: d.one(15, 15, 15, 7, 7, 5, 3, 1, 2, 0), Badge: d.one(0, 0, 0, 0, 0, 1, 6)}
	case 6, 7:
		return api.Call{Kind: api.CaMove, A: made, B: none}
	case 8, 9, 10, 11:
		return api.Call{Kind: api.CaDelete, A: made}
	case 12, 13, 14:
		if d.upTo(4) > 0 {
			l = l[2:]
		}
		parents := slices.DeleteFunc(slices.Clone(l), func(x spot) bool { return !x.kids })
		return api.Call{Kind: api.CaRevoke, A: d.to(parents, anything)}
	case 15, 16, 17, 18, 19:
		return api.Call{Kind: api.CaRetype, A: d.to(l, typed(api.TyUntyped)), B: none, Type: d.one(1, 2, 2, 2, 3, 3, 3, 4, 5, 5), Size: d.one(0, 0, 0, 64, 256)}
	case 20, 21:
		if d.upTo(2) == 0 {
			return api.Call{Kind: api.CaRead, A: d.to(l, typed(api.TyFrame))}
		}
		return api.Call{Kind: api.CaWrite, A: d.to(l, typed(api.TyFrame)), Value: int64(d.upTo(9))}
	case 22:
		return api.Call{Kind: api.CaSignal, A: d.to(l, typed(api.TyNotice))}
	case 23:
		return api.Call{Kind: api.CaLook, A: some}
	case 24:
		return api.Call{Kind: d.upTo(15) - 1, A: d.maybe(some), B: d.maybe(none), Size: d.upTo(2)}
	}
	if d.upTo(2) == 0 {
		l = l[2:] // one that was made
	}
	return d.meeting(s, core, d.to(l, typed(d.one(4, 4, 5))), d.maybe(some), d.maybe(none))
}

// meeting is a call at an endpoint or a notice: mostly one that meets who waits there, and always, if few others could. Core 0 is there for that.
func (d *dice) meeting(s api.State, core int, a, some, none uint64) api.Call {
	k, ok := place(s, core, a)
	if !ok {
		return api.Call{Kind: api.CaLook, A: a}
	}
	c := toldAt(s, k)
	send, recv := api.Call{Kind: api.CaSend, A: a, B: some, Value: int64(d.upTo(9))}, api.Call{Kind: api.CaRecv, A: a, B: none}
	if c.Type == api.TyNotice {
		send, recv = api.Call{Kind: api.CaSignal, A: a}, api.Call{Kind: api.CaWait, A: a}
	}
	kind := s.Ports[c.Obj].Kind
	lonely := core == 0 || waiting(s)*3 >= 2*len(s.Roots)
	switch {
	case s.Ports[c.Obj].Word != 0 && d.upTo(3) > 0:
		return recv
	case kind == 2 && (lonely || d.upTo(3) > 0):
		return send
	case kind == 1 && (lonely || d.upTo(3) > 0):
		return recv
	case lonely:
		return api.Call{Kind: api.CaLook, A: a}
	case d.upTo(2) == 0:
		return send
	}
	return recv
}

// waiting is how many cores wait.
func waiting(s api.State) int {
	n := 0
	for _, p := range s.Ports {
		n += len(p.Queue)
	}
	return n
}

// picks say in which order cores do steps: by chance, in bursts, round by round, or with one that is slow.
func (d *dice) picks(cores, n int) []int {
	var l []int
	way, slow := d.upTo(4), d.upTo(cores)
	for len(l) < n {
		switch core := d.upTo(cores); {
		case way == 0:
			l = append(l, core)
		case way == 1:
			l = append(l, slices.Repeat([]int{core}, 1+d.upTo(20))...)
		case way == 2:
			l = append(l, len(l)%cores)
		case core != slow || d.upTo(10) == 0:
			l = append(l, core)
		}
	}
	return l
}

// place is the slot that an address leads a core to.
func place(s api.State, core int, word uint64) (api.Key, bool) {
	steps, _ := addr.Parse(word)
	k, _, e := addr.Find(s.Nodes, model.Root(s, core), steps)
	return k, e == api.OK
}

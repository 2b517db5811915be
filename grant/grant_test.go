package grant

import (
	"slices"
	"testing"

	"garrison/addr"
	"garrison/api"
	"garrison/model"
)

// nodeOnly has a node at place 8 that core 0 can come to by what is in slot 3 alone, with these rights: the one with all rights lies in the node itself.
func nodeOnly(rights int) []deed {
	return deeds(retype(0, api.TyNode, 2), mint(0, by(2), by(3), rights, 0), move(0, by(2), by(2, 7)))
}

// TestReach: P21.1, written out: the nodes whose slots core 0 reaches.
func TestReach(t *testing.T) {
	two := deeds(retype(0, api.TyNode, 2), retype(0, api.TyNode, 3), mint(0, by(2), by(3, 0), api.All, 0), mint(0, by(3), by(2, 0), api.All, 0))
	deep := deeds(retype(0, api.TyNode, 7), retype(0, api.TyNode, 7, 0), retype(0, api.TyNode, 7, 0, 3), retype(0, api.TyNode, 7, 0, 3, 7))
	for _, x := range []struct {
		name string
		l    []deed
		want []int
	}{
		{"at first", nil, cores(0)},
		{"no node", deeds(retype(0, api.TyFrame, 2), retype(0, api.TyEndpoint, 3), retype(0, api.TyNotice, 4)), cores(0)},
		{"a node in the last slot", deeds(retype(0, api.TyNode, 7)), cores(0, 8)},
		{"another core's", deeds(retype(1, api.TyNode, 2)), cores(0)},
		{"that of a core of the same domain", deeds(retype(2, api.TyNode, 2)), cores(0, 6)},
		{"a node in itself", deeds(retype(0, api.TyNode, 2), mint(0, by(2), by(2, 0), api.All, 0)), cores(0, 8)},
		{"a node in itself alone", deeds(retype(0, api.TyNode, 2), move(0, by(2), by(2, 0))), cores(0)},
		{"two in each other", two, cores(0, 8, 12)},
		{"two in each other, one of them in its own slot 0 alone", slices.Concat(two, deeds(move(0, by(2), by(3, 1)))), cores(0, 8, 12)},
		{"two in each other alone", slices.Concat(two, deeds(move(0, by(2), by(3, 1)), move(0, by(3), by(3, 2)))), cores(0)},
		{"in two ways", deeds(retype(0, api.TyNode, 2), retype(0, api.TyNode, 2, 5), mint(0, by(2, 5), by(3), api.All, 0)), cores(0, 8, 12)},
		{"all rights, in slot 3 alone", nodeOnly(api.All), cores(0, 8)},
		{"Read alone", nodeOnly(api.Read), cores(0, 8)},
		{"all but Read", nodeOnly(api.All - api.Read), cores(0)},
		{"no rights", nodeOnly(0), cores(0)},
		{"in two ways, one of them not to be read", deeds(retype(0, api.TyNode, 3), mint(0, by(3), by(2), api.Write, 0)), cores(0, 8)},
		{"a node in a node in a node in a node", deep, cores(0, 8, 12, 16, 20)},
		{"what is in one that is not to be read", slices.Concat(deep, deeds(mint(0, by(7), by(6), api.Write, 0), move(0, by(7), by(7, 6)))), cores(0)},
		{"deeper than addresses go", slices.Concat(deep, deeds(retype(2, api.TyNode, 2), move(2, by(7), by(2, 7)))), cores(0, 6, 8, 12, 16, 20)},
		{"one that has died", deeds(retype(0, api.TyNode, 2), erase(0, 2)), cores(0)},
		{"one of another generation", deeds(retype(0, api.TyNode, 2), retype(0, api.TyNode, 3), retype(0, api.TyNode, 4), retype(0, api.TyNode, 5), erase(0, 2), retype(0, api.TyNode, 2)), cores(0, 8, 12, 16, 20)},
		{"one that came with a capability", deeds(retype(1, api.TyNode, 2), send(1, 2), recv(0, 2)), cores(0, 5)},
		{"one that was revoked", deeds(retype(1, api.TyNode, 2), send(1, 2), recv(0, 2), revoke(1, 2)), cores(0)},
	} {
		s := begun(t, x.l...)
		if l := Reach(s, 0); !slices.Equal(l, slots(x.want...)) {
			t.Errorf("%s: %v", x.name, l)
		}
		for core := range 4 {
			if l := Reach(s, core); !slices.Equal(l, toldReach(s, core)) {
				t.Errorf("%s: %d reaches %v", x.name, core, l)
			}
		}
	}
}

// TestReachOfNoCore: P21.1.
func TestReachOfNoCore(t *testing.T) {
	s := begun(t)
	for core := range 4 {
		if l := Reach(s, core); !slices.Equal(l, slots(core%2)) {
			t.Error(core, l)
		}
	}
	for _, core := range append(cores(-1, 4, 5, 63, 64), ends...) {
		if l := Reach(s, core); len(l) != 0 {
			t.Error(core, l)
		}
		if l := Lent(s, core); len(l) != 0 {
			t.Error(core, l)
		}
	}
	if l := Reach(api.State{}, 0); len(l) != 0 {
		t.Error(l)
	}
}

// TestLent: P21.1, written out: what core 0 has lent.
func TestLent(t *testing.T) {
	notice := deeds(retype(0, api.TyNotice, 2), deed{0, api.Call{Kind: api.CaWait, A: to(2)}})
	own := retype(0, api.TyEndpoint, 2)
	for _, x := range []struct {
		name string
		l    []deed
		want []api.Key
	}{
		{"it waits nowhere", nil, nil},
		{"it has nothing to give", deeds(deed{0, api.Call{Kind: api.CaSend, A: to(1)}}), nil},
		{"it has no slot to take", deeds(deed{0, api.Call{Kind: api.CaRecv, A: to(1)}}), nil},
		{"it sends", deeds(send(0, 0)), keys(key(0, 0))},
		{"it sends what is nothing", deeds(send(0, 6)), keys(key(0, 6))},
		{"it receives", deeds(recv(0, 5)), keys(key(0, 5))},
		{"in a node's slot", deeds(retype(0, api.TyNode, 7), recv(0, 7, 3)), keys(key(8, 3))},
		{"in a node that has died", deeds(retype(0, api.TyNode, 7), recv(0, 7, 3), erase(2, 7)), keys(key(8, 3))},
		{"at an endpoint of its own", deeds(own, deed{0, api.Call{Kind: api.CaRecv, A: to(2), B: to(3)}}), keys(key(0, 3))},
		{"at a notice", notice, nil},
		{"others wait", deeds(recv(1, 5), recv(2, 5), recv(3, 6)), nil},
		{"others wait, too", deeds(recv(1, 5), recv(2, 5), recv(0, 6), recv(3, 6)), keys(key(0, 6))},
		{"it was met", deeds(recv(0, 5), send(1, 0)), nil},
		{"another one was met", deeds(recv(1, 5), recv(0, 5), send(2, 0)), keys(key(0, 5))},
		{"its endpoint has died", deeds(own, deed{0, api.Call{Kind: api.CaRecv, A: to(2), B: to(3)}}, erase(2, 2)), nil},
	} {
		s := begun(t, x.l...)
		if l := Lent(s, 0); !slices.Equal(l, x.want) {
			t.Errorf("%s: %v", x.name, l)
		}
		for core := range 4 {
			if l := Lent(s, core); !slices.Equal(l, toldLent(s, core)) {
				t.Errorf("%s: %d has lent %v", x.name, core, l)
			}
		}
	}
}

// TestHolds: P21.2, written out.
func TestHolds(t *testing.T) {
	s := begun(t, retype(0, api.TyNode, 2), mint(0, by(1), by(2, 7), api.Write|api.Grant, 9), erase(0, 2, 7), mint(0, by(1), by(2, 7), api.Write|api.Grant, 9), mint(0, by(0), by(3), 0, 0),
		retype(1, api.TyFrame, 2), retype(1, api.TyFrame, 3), retype(1, api.TyFrame, 4), retype(1, api.TyFrame, 5), retype(1, api.TyFrame, 6), erase(1, 2), retype(1, api.TyFrame, 2))
	for _, x := range []struct {
		name string
		l    []api.Key
		want []api.Hold
	}{
		{"no slots", nil, nil},
		{"empty ones", keys(key(0, 4), key(8, 0), key(0, 7)), nil},
		{"one", keys(key(0, 0)), holds(hold(2, 0, 15))},
		{"with a badge", keys(key(8, 7)), holds(hold(4, 0, 6))},
		{"without rights", keys(key(0, 3)), holds(hold(2, 0, 0))},
		{"of another generation", keys(key(1, 2)), holds(hold(5, 1, 15))},
		{"twice", keys(key(0, 1), key(0, 1)), holds(hold(4, 0, 15), hold(4, 0, 15))},
		{"twice, not together", keys(key(0, 1), key(0, 5), key(0, 2), key(0, 1)), holds(hold(4, 0, 15), hold(8, 0, 15), hold(4, 0, 15))},
		{"of the same object", keys(key(0, 0), key(0, 3)), holds(hold(2, 0, 15), hold(2, 0, 0))},
		{"falling", keys(key(8, 7), key(1, 1), key(0, 2), key(0, 0)), holds(hold(4, 0, 6), hold(4, 0, 15), hold(8, 0, 15), hold(2, 0, 15))},
		{"no slots of a node", keys(key(0, -1), key(0, 8), key(8, -1), key(0, 9)), nil},
		{"of what is no node", keys(key(2, 0), key(4, 1), key(20, 0)), nil},
		{"of what there is not", keys(key(-1, 0), key(24, 0), key(1023, 0), key(1024, 7)), nil},
		{"there is not, there is", keys(key(0, 8), key(24, 0), key(0, 0), key(0, -1)), holds(hold(2, 0, 15))},
	} {
		if l := Holds(s, x.l); !slices.Equal(l, x.want) || !slices.Equal(toldHolds(s, x.l), x.want) {
			t.Errorf("%s: %v", x.name, l)
		}
	}
}

// TestCovers: P21.3, written out.
func TestCovers(t *testing.T) {
	for _, x := range []struct {
		name string
		l    []api.Hold
		h    api.Hold
		want bool
	}{
		{"nothing", nil, hold(0, 0, 0), false},
		{"the same", holds(hold(3, 2, 5)), hold(3, 2, 5), true},
		{"less", holds(hold(3, 2, 5)), hold(3, 2, 4), true},
		{"none", holds(hold(3, 2, 5)), hold(3, 2, 0), true},
		{"none within none", holds(hold(3, 2, 0)), hold(3, 2, 0), true},
		{"more", holds(hold(3, 2, 5)), hold(3, 2, 7), false},
		{"one within none", holds(hold(3, 2, 0)), hold(3, 2, 8), false},
		{"neither", holds(hold(3, 2, 5)), hold(3, 2, 6), false},
		{"another object", holds(hold(3, 2, 15)), hold(2, 2, 1), false},
		{"another generation", holds(hold(3, 2, 15)), hold(3, 3, 1), false},
		{"an older one", holds(hold(3, 2, 15)), hold(3, 1, 1), false},
		{"the last one", holds(hold(1, 0, 15), hold(3, 1, 15), hold(3, 2, 1), hold(3, 2, 3)), hold(3, 2, 2), true},
		{"the first one", holds(hold(3, 2, 3), hold(3, 2, 0), hold(1, 0, 15)), hold(3, 2, 2), true},
		{"none of several", holds(hold(1, 0, 15), hold(3, 1, 15), hold(3, 2, 1), hold(3, 2, 4)), hold(3, 2, 2), false},
		{"two together", holds(hold(3, 2, 1), hold(3, 2, 2)), hold(3, 2, 3), false},
		{"parts of several", holds(hold(3, 1, 15), hold(2, 2, 15)), hold(3, 2, 1), false},
	} {
		if is := Covers(x.l, x.h); is != x.want || toldCovers(x.l, x.h) != x.want {
			t.Errorf("%s: %t", x.name, is)
		}
	}
	for a := range 16 {
		for b := range 16 {
			if is := Covers(holds(hold(1, 1, a)), hold(1, 1, b)); is != (a&b == b) {
				t.Error(a, b, is)
			}
		}
	}
	for _, r := range append(cores(-1, 16, 17, 31), ends...) { // what are no rights are within none, and none are within them
		if Covers(holds(hold(1, 0, r)), hold(1, 0, r)) || Covers(holds(hold(1, 0, 15)), hold(1, 0, r)) || Covers(holds(hold(1, 0, r)), hold(1, 0, 0)) {
			t.Error(r)
		}
	}
}

// again has the place 5 used once more, for a thing of that type in slot 2 of core 1: the others of its places are in use.
func again(kind int) []deed {
	return deeds(retype(1, api.TyFrame, 3), retype(1, api.TyFrame, 4), retype(1, api.TyFrame, 5), retype(1, api.TyFrame, 6), erase(1, 2), retype(1, kind, 2))
}

// TestGained: P21.3, written out: what slots have something that they had not ahead of these calls.
func TestGained(t *testing.T) {
	node := deeds(retype(1, api.TyNode, 2), mint(1, by(1), by(2, 6), api.All, 0))
	for _, x := range []struct {
		name    string
		had, do []deed
		want    []api.Key
	}{
		{"nothing", nil, nil, nil},
		{"nothing changed", node, deeds(deed{0, api.Call{Kind: api.CaLook, A: to(0)}}, send(0, 0), recv(1, 1)), nil},
		{"another thing's value", deeds(retype(0, api.TyFrame, 2)), deeds(deed{0, api.Call{Kind: api.CaWrite, A: to(2), Value: 9}}), nil},
		{"something", nil, deeds(mint(0, by(0), by(7), 0, 0)), keys(key(0, 7))},
		{"a new thing", nil, deeds(retype(3, api.TyFrame, 4)), keys(key(1, 4))},
		{"it moves", deeds(retype(0, api.TyFrame, 2)), deeds(move(0, by(2), by(7))), keys(key(0, 7))},
		{"it goes", deeds(retype(0, api.TyFrame, 2)), deeds(erase(0, 2)), nil},
		{"several, rising", nil, deeds(retype(3, api.TyNode, 4), mint(1, by(0), by(4, 5), 1, 0), mint(1, by(0), by(3), 1, 0), mint(0, by(1), by(6), 1, 0), mint(0, by(1), by(2), 1, 0)), keys(key(0, 2), key(0, 6), key(1, 3), key(1, 4), key(7, 5))},
		{"with less rights", deeds(mint(0, by(1), by(2), 7, 0)), deeds(erase(0, 2), mint(0, by(1), by(2), 3, 0)), keys(key(0, 2))},
		{"with another badge", deeds(mint(0, by(1), by(2), 7, 1)), deeds(erase(0, 2), mint(0, by(1), by(2), 7, 2)), keys(key(0, 2))},
		{"the same once more", deeds(mint(0, by(1), by(2), 7, 1)), deeds(erase(0, 2), mint(0, by(1), by(2), 7, 1)), nil},
		{"there and back", nil, deeds(move(0, by(1), by(7)), move(0, by(7), by(1))), nil},
		{"another one in each place", nil, deeds(move(0, by(0), by(7)), move(0, by(1), by(0)), move(0, by(7), by(1))), keys(key(0, 0), key(0, 1))},
		{"of another generation", deeds(retype(1, api.TyFrame, 2)), again(api.TyFrame), slots(1)[2:7]},
		{"in a node that is live now alone", nil, node, keys(key(1, 2), key(5, 6))},
		{"in a node that lives no more", node, deeds(erase(1, 2, 6), erase(1, 2)), nil},
		{"the same, in a node of another generation", node, slices.Concat(deeds(erase(1, 2, 6)), again(api.TyNode), deeds(mint(1, by(1), by(2, 6), api.All, 0))), slots(1)[2:7]},
		{"another one, in a node of another generation", node, slices.Concat(deeds(erase(1, 2, 6)), again(api.TyNode), deeds(mint(1, by(1), by(2, 6), 1, 0))), append(slots(1)[2:7], key(5, 6))},
		{"by a send", deeds(recv(1, 5)), deeds(send(0, 0)), keys(key(1, 5))},
	} {
		s := begun(t, x.had...)
		n := after(t, s, x.do)
		if l := Gained(s, n); !slices.Equal(l, x.want) || !slices.Equal(toldGained(s, n), x.want) {
			t.Errorf("%s: %v", x.name, l)
		}
		if l := Gained(n, n); len(l) != 0 {
			t.Errorf("%s: %v", x.name, l)
		}
		if l := Gained(n, s); !slices.Equal(l, toldGained(n, s)) {
			t.Errorf("%s, back: %v", x.name, l)
		}
	}
	if l := Gained(api.State{}, begun(t)); !slices.Equal(l, keys(key(0, 0), key(0, 1), key(1, 0), key(1, 1))) {
		t.Error(l)
	}
}

// confine is one case of Confined: what is done, and for which cores it is right, and for which not.
type confine struct {
	name    string
	had, do []deed
	yes, no [][]int
}

func sets(l ...[]int) [][]int { return l }

func checkConfined(t *testing.T, l []confine) {
	t.Helper()
	for _, x := range l {
		s := begun(t, x.had...)
		n := after(t, s, x.do)
		for _, c := range x.yes {
			if !Confined(s, n, c...) || !toldConfined(s, n, c) {
				t.Errorf("%s: not with %v", x.name, c)
			}
		}
		for _, c := range x.no {
			if Confined(s, n, c...) || toldConfined(s, n, c) {
				t.Errorf("%s: with %v", x.name, c)
			}
		}
	}
}

// shared has a node at place 8 that all cores reach: in slot 2 of both domains' nodes.
var shared = []deed{retype(0, api.TyNode, 2), recv(1, 2), send(0, 2)}

// TestConfined: P21.4, written out: one core, several, and what they reach.
func TestConfined(t *testing.T) {
	checkConfined(t, []confine{
		{"nothing changed", nil, nil, sets(nil, cores(0), cores(9), cores(0, 1)), nil},
		{"nothing gained", deeds(retype(0, api.TyFrame, 2)), deeds(erase(0, 2)), sets(nil, cores(1), cores(-1)), nil},
		{"a copy of its own", nil, deeds(mint(0, by(0), by(2), 1, 0)), sets(cores(0), cores(2), cores(0, 0), cores(1, 0), cores(0, 1, 3, 2), cores(9, 0, -1)), sets(nil, cores(1), cores(1, 3), cores(1, 1), cores(-1), cores(4), cores(9, 1))},
		{"of what all have, in another's node", nil, deeds(mint(0, by(1), by(2), 15, 0)), sets(cores(0), cores(2, 1)), sets(nil, cores(1), cores(3))},
		{"in a shared node, of what all have", shared, deeds(mint(0, by(1), by(2, 4), 15, 0)), sets(cores(0), cores(1), cores(3)), sets(nil, cores(4))},
		{"in a shared node, of what one domain has", shared, deeds(mint(0, by(0), by(2, 4), 15, 0)), sets(cores(0), cores(2), cores(1, 0), cores(1, 2, 1)), sets(nil, cores(1), cores(3), cores(1, 3))},
		{"what another core put there is all's", slices.Concat(shared, deeds(mint(1, by(0), by(2, 4), 7, 0))), deeds(mint(2, by(2, 4), by(5), 7, 0)), sets(cores(0), cores(2)), sets(cores(1))},
		{"the place of one, what another one has", slices.Concat(shared, deeds(mint(1, by(0), by(2, 4), 7, 0))), deeds(move(0, by(2, 4), by(4)), erase(0, 4), mint(3, by(0), by(2, 4), 15, 0)), sets(cores(1), cores(0, 1)), sets(cores(0), nil)},
		{"several gain", nil, deeds(mint(0, by(0), by(2), 1, 0), mint(1, by(0), by(2), 1, 0)), sets(cores(0, 1), cores(3, 2), cores(1, 2, 1)), sets(nil, cores(0), cores(1), cores(0, 2))},
		{"in a node in the shared one", slices.Concat(shared, deeds(retype(0, api.TyNode, 4), mint(0, by(4), by(2, 0), 1, 0))), deeds(mint(2, by(1), by(4, 6), 1, 0)), sets(cores(1), cores(0)), sets(nil, cores(-1))},
	})
}

// TestConfinedToWhatWasLent: P21.4, written out: what those who wait have lent.
func TestConfinedToWhatWasLent(t *testing.T) {
	// Core 1 has a frame in a node, and is about to send it; then core 3 lets nobody reach the node any more.
	hidden := deeds(retype(1, api.TyNode, 2), retype(1, api.TyFrame, 2, 0), send(1, 2, 0), move(3, by(2), by(2, 7)))
	// Core 1 is about to receive into the shared node, and reaches it no more then.
	out := slices.Concat(shared, deeds(recv(1, 2, 4), revoke(0, 2)))
	checkConfined(t, []confine{
		{"it receives", deeds(recv(1, 5)), deeds(send(0, 0)), sets(cores(0, 1), cores(1, 2), cores(0, 3)), sets(nil, cores(0), cores(1), cores(1, 3), cores(0, 2))},
		{"it receives what all have", deeds(recv(1, 5)), deeds(send(0, 1)), sets(cores(1), cores(3), cores(0, 1)), sets(nil, cores(0), cores(0, 2))},
		{"it sends", deeds(send(0, 0)), deeds(recv(1, 5)), sets(cores(0, 1), cores(2, 3)), sets(nil, cores(0), cores(1))},
		{"a place that was lent alone", out, deeds(send(0, 1)), sets(cores(1), cores(0)), sets(nil, cores(3))},
		{"a place that was lent alone, not covered", out, deeds(send(0, 0)), sets(cores(0), cores(1, 0)), sets(cores(1), cores(3), cores(1, 3))},
		{"covered by what was lent alone", hidden, deeds(recv(0, 5)), sets(cores(0, 1), cores(1, 2), cores(1, 0, 1)), sets(cores(0), cores(1), cores(0, 3), cores(2, 3), cores(0, 2))},
		{"covered by what was lent, with less rights", deeds(retype(1, api.TyFrame, 2), mint(1, by(2), by(3), 6, 0), send(1, 3)), deeds(recv(0, 5)), sets(cores(0, 1), cores(0, 3)), sets(cores(0), cores(1))},
		{"it waits without Has", deeds(deed{1, api.Call{Kind: api.CaSend, A: to(1)}}), deeds(mint(0, by(1), by(5), 1, 0)), sets(cores(0)), sets(cores(1))},
	})
}

// TestConfinedTogether: P21.4: what two cores have together, but neither of them alone, covers nothing.
func TestConfinedTogether(t *testing.T) {
	// Core 0 has a frame that may be read, core 1 has it to be written, in the shared node is one with all rights; who reaches that alone is nobody of them then.
	had := deeds(retype(0, api.TyFrame, 3), recv(1, 3), send(0, 3))
	s := begun(t, had...)
	with := func(place api.Key, rights int) api.Cap { c := toldAt(s, place); c.Rights = rights; return c }
	s.Nodes[0][3], s.Nodes[1][3] = with(key(0, 3), api.Read), with(key(1, 3), api.Write)
	for _, x := range []struct {
		rights int
		yes    [][]int
		no     [][]int
	}{
		{api.Read, sets(cores(0), cores(0, 1)), sets(cores(1))},
		{api.Write, sets(cores(0, 1), cores(1, 0, 1)), sets(cores(0), cores(1))},
		{api.Read | api.Write, nil, sets(cores(0), cores(1), cores(0, 1), cores(1, 0), cores(0, 1, 2, 3))},
		{0, sets(cores(0), cores(0, 1)), sets(cores(1), nil)},
	} {
		n := whole(s)
		n.Nodes[0][5] = with(key(0, 3), x.rights)
		for i, want := range []bool{true, false} {
			for _, c := range [][][]int{x.yes, x.no}[i] {
				if Confined(s, n, c...) != want || toldConfined(s, n, c) != want {
					t.Error(x.rights, c, !want)
				}
			}
		}
	}
}

// TestConfinedToNew: P21.4, written out: objects that live in the second state alone, or are there with another Gen.
func TestConfinedToNew(t *testing.T) {
	frame := deeds(retype(1, api.TyFrame, 2))
	node := slices.Concat(shared, deeds(retype(1, api.TyNode, 3)))
	checkConfined(t, []confine{
		{"a new object", nil, deeds(retype(0, api.TyFrame, 2)), sets(cores(0), cores(2)), sets(nil, cores(1), cores(9))},
		{"a new object in a shared node", shared, deeds(retype(0, api.TyFrame, 2, 4)), sets(cores(0), cores(1)), sets(nil)},
		{"an object of another generation", frame, again(api.TyFrame), sets(cores(1), cores(3)), sets(nil, cores(0))},
		{"of another generation, and type", frame, again(api.TyEndpoint), sets(cores(1)), sets(nil, cores(0))},
		{"in a new node, of what one had", nil, deeds(retype(0, api.TyNode, 2), mint(0, by(0), by(2, 4), 3, 0)), sets(cores(0)), sets(nil, cores(1))},
		{"in a new node in a shared one, of what all have", shared, deeds(retype(0, api.TyNode, 2, 3), mint(0, by(1), by(2, 3, 4), 3, 0)), sets(cores(0), cores(1)), sets(nil)},
		{"in a new node in a shared one, of what one has", shared, deeds(retype(0, api.TyNode, 2, 3), mint(0, by(0), by(2, 3, 4), 3, 0)), sets(cores(0), cores(1, 0)), sets(nil, cores(1))},
		{"a new object in a new node", shared, deeds(retype(0, api.TyNode, 2, 3), retype(0, api.TyFrame, 2, 3, 4)), sets(cores(0), cores(1)), sets(nil)},
		{"in a node of another generation", slices.Concat(deeds(retype(1, api.TyNode, 2)), again(api.TyNode)[:4]), deeds(erase(1, 2), retype(1, api.TyNode, 2), mint(1, by(1), by(2, 6), 1, 0)), sets(cores(1)), sets(nil, cores(0))},
		{"in a node that was there", node, deeds(mint(1, by(1), by(3, 6), 1, 0)), sets(cores(1)), sets(nil, cores(0))},
		{"in a node that was there, and what was not", node, deeds(retype(1, api.TyFrame, 3, 6)), sets(cores(1)), sets(nil, cores(0))},
	})
}

// TestConfinedInNewAlone: P21.4: a place in a node that is new is right whoever is asked for, if nothing else was gained.
func TestConfinedInNewAlone(t *testing.T) {
	first := begun(t, retype(1, api.TyNode, 2))
	last := begun(t, slices.Concat(deeds(retype(1, api.TyNode, 2)), again(api.TyNode), deeds(mint(1, by(1), by(2, 6), 1, 0)))...)
	s, n := whole(last), whole(last)
	s.Nodes[5][6] = api.Cap{}
	s.Arena.Things[5] = first.Arena.Things[5]
	for _, x := range []struct {
		name  string
		is    api.Thing
		cores []int
		want  bool
	}{
		{"another Gen", api.Thing{Type: api.TyNode}, cores(0), true},
		{"another Gen, but not covered", api.Thing{Type: api.TyNode}, nil, false},
		{"not live", api.Thing{Gen: 1}, cores(0), true},
		{"not live, retired", api.Thing{Gen: api.Retired}, cores(2), true},
		{"there", last.Arena.Things[5], cores(0), false},
		{"there, in reach", last.Arena.Things[5], cores(1), true},
	} {
		s.Arena.Things[5] = x.is
		if Confined(s, n, x.cores...) != x.want || toldConfined(s, n, x.cores) != x.want {
			t.Error(x.name)
		}
	}
	n.Arena.Things[5], s.Arena.Things[5] = api.Thing{}, api.Thing{}
	if Confined(s, n, 0) {
		t.Error("a node that lives in neither of them is not new")
	}
}

// TestExample: the chapter's example.
func TestExample(t *testing.T) {
	for domains := 1; domains <= 4; domains++ {
		s, _ := model.New(6, 20, 64, domains)
		for core := range 6 {
			l := Reach(s, core)
			if len(l) != 8 || !slices.Equal(l, slots(core%domains)) || !slices.Equal(Holds(s, l), holds(hold(domains+core%domains, 0, 15), hold(2*domains, 0, 15))) {
				t.Error(domains, core, l)
			}
		}
	}
}

// TestReachIsWhereAddressesLead: P21.1: each slot that an address finds is reached, and each that is reached by at most four steps is found, if guards can be told.
func TestReachIsWhereAddressesLead(t *testing.T) {
	s := begun(t, retype(0, api.TyNode, 2), mint(0, by(2), by(3), api.Write, 0), retype(0, api.TyNode, 2, 5), mint(0, by(2), by(2, 5, 1), api.Read, 0), retype(1, api.TyNode, 7), send(1, 7), recv(0, 2, 5, 0))
	s.Nodes[0][2].Badge, s.Nodes[8][5].Badge, s.Nodes[12][0].Badge = 3, 7, 1
	found := map[api.Key]bool{}
	var walk func(l []api.Step)
	walk = func(l []api.Step) {
		for guard := range 8 {
			for i := range 8 {
				one := append(slices.Clone(l), api.Step{Guard: guard, Index: i})
				k, _, e := addr.Find(s.Nodes, model.Root(s, 0), one)
				if e != api.OK {
					break
				}
				found[k] = true
				if len(one) < 4 {
					walk(one)
				}
			}
		}
	}
	walk(nil)
	l := Reach(s, 0)
	if len(l) != 32 || len(found) != len(l) {
		t.Fatal(l, found)
	}
	for _, k := range l {
		if !found[k] {
			t.Error(k)
		}
	}
}

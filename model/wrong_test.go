package model

import (
	"math"
	"slices"
	"testing"

	"garrison/api"
)

// odd is a number that has no place anywhere.
func (d *dice) odd() int {
	return d.pick(-1, -2, 0, 1, 2, 3, 7, 8, 9, 15, 16, 63, 64, 65, 512, 1023, 1024, 4095, 4096, math.MaxInt, math.MinInt, math.MaxInt-1, 1<<32, -1<<32)
}

// spoil turns something in s that calls never would: of such a state nothing is promised, but that calls on it end, and do not panic.
func (d *dice) spoil(s *api.State) {
	thing := &s.Arena.Things[d.roll(len(s.Arena.Things))]
	cell := &s.Nodes[0][d.roll(8)]
	branch := &s.Tree[d.roll(len(s.Tree))]
	port := &s.Ports[d.roll(len(s.Ports))]
	core := d.roll(len(s.Roots))
	k := api.Key{Obj: d.odd(), Slot: d.odd()}
	switch d.roll(16) {
	case 0:
		thing.Type = d.odd()
	case 1:
		thing.Gen = d.odd()
	case 2:
		thing.Refs = d.odd()
	case 3:
		thing.From = d.odd()
	case 4:
		thing.Start, thing.Size, thing.Water = d.odd(), d.odd(), d.odd()
	case 5:
		cell.Obj = d.odd()
	case 6:
		cell.Type, cell.Rights = d.odd(), d.odd()
	case 7:
		s.Arena.Free[core] = append(s.Arena.Free[core], d.odd())
	case 8:
		s.Limbo[core] = append([]int{d.odd()}, s.Limbo[core]...)
	case 9:
		s.Roots[core] = d.odd()
	case 10:
		s.Sweeps[core] = api.Sweep{On: true, Key: k}
	case 11:
		s.Sweeps[core] = api.Sweep{On: true, Key: branch.Key}
	case 12:
		branch.Key = k
	case 13:
		branch.Depth = d.odd()
	case 14:
		port.Kind, port.Word = d.odd(), int64(d.odd())
	case 15:
		port.Queue = append(port.Queue, api.Waiter{Core: d.odd(), Has: true, Slot: k, Gen: d.roll(2)})
	}
}

// cut has lists of s be of other lengths.
func (d *dice) cut(s *api.State) {
	switch d.roll(6) {
	case 0:
		s.Nodes[d.roll(len(s.Nodes))] = make([]api.Cap, d.roll(10))
	case 1:
		s.Nodes, s.Ports = s.Nodes[:d.roll(len(s.Nodes)+1)], s.Ports[:d.roll(len(s.Ports)+1)]
	case 2:
		s.Arena.Things = s.Arena.Things[:d.roll(len(s.Arena.Things)+1)]
	case 3:
		s.Limbo, s.Sweeps = s.Limbo[:d.roll(len(s.Limbo)+1)], s.Sweeps[:d.roll(len(s.Sweeps)+1)]
	case 4:
		s.Arena.Free, s.Roots = s.Arena.Free[:d.roll(len(s.Arena.Free)+1)], s.Roots[:d.roll(len(s.Roots)+1)]
	case 5:
		s.Tree = slices.Repeat(s.Tree, d.roll(60))
	}
}

// TestSpoiled: rule 1 of the document, and rule 4 of the language: no call panics, and each one ends, on states that came of no call, too.
func TestSpoiled(t *testing.T) {
	first := many(t).s
	sends, _ := Do(first, 1, send(to(1), 3, to(2, 0)))
	takes, _ := Do(first, 0, recv(to(1), to(7)))
	for run := range 6000 {
		d := dice(run)
		s := roomyState([]api.State{first, sends, takes}[d.roll(3)])
		core := d.roll(3)
		calls := []api.Call{d.call(s, core), d.rich(s, core), revoke(to(0))}
		for range 1 + d.roll(3) {
			d.spoil(&s)
		}
		if d.roll(3) == 0 {
			d.cut(&s)
		}
		for _, c := range calls {
			k := keep(s)
			n, _ := Do(k.s, core, c)
			m, _ := Begin(k.s, core, revoke(c.A))
			u, _ := Turn(k.s, 2)
			f, _, _ := Free(k.s, core)
			Touch(k.s, core, c)
			Root(k.s, core)
			Waits(k.s, core)
			if !k.unchanged() || Same(s, n) != like(s, n) {
				t.Fatal(run, s)
			}
			s, core = []api.State{n, m, u, f}[d.roll(4)], d.roll(5)-1
		}
	}
}

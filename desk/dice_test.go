package desk

import (
	"fmt"
	"slices"
	"strings"

	"garrison/api"
	"garrison/kernel"
)

// dice are numbers that look like chance, the same each time.
type dice uint64

func (d *dice) upTo(n int) int {
	*d = *d*6364136223846793005 + 1442695040888963407
	return int(uint64(*d) >> 33 % uint64(n))
}

func (d *dice) one(l ...string) string { return l[d.upTo(len(l))] }

// spot is a slot that an address leads to, and what is there.
type spot struct {
	path string
	has  api.Cap
}

// spots are the slots that a core's addresses of at most three steps lead to.
func spots(s api.State, core int) []spot {
	var l []spot
	var walk func(node int, way string, left int)
	walk = func(node int, way string, left int) {
		for i, c := range s.Nodes[node] {
			path := fmt.Sprint(way, i)
			l = append(l, spot{path, c})
			if left > 0 && c.Type == api.TyNode && c.Rights&api.Read > 0 {
				walk(c.Obj, path+".", left-1)
			}
		}
	}
	walk(s.Roots[core], "", 2)
	return l
}

// to leads to one of those slots that have such a thing (0: none, -1: any); from time to time, or if there is none, anywhere.
func (d *dice) to(l []spot, kind int) string {
	fits := slices.DeleteFunc(slices.Clone(l), func(x spot) bool {
		return x.has.Type != kind && (kind >= 0 || x.has.Type == 0)
	})
	if len(fits) == 0 || d.upTo(16) == 0 {
		return fmt.Sprintf("%d.%d", d.upTo(8), d.upTo(8))
	}
	return fits[d.upTo(len(fits))].path
}

// line is one of each kind, mostly such that it can be done as things are.
func (d *dice) line(k *kernel.Kernel) string {
	if k == nil || d.upTo(60) == 0 {
		return d.begins()
	}
	s := k.State()
	cores := len(s.Roots)
	core := d.upTo(cores)
	if d.upTo(40) == 0 {
		return fmt.Sprint(d.one("look ", "slot ", "replies ", "delete "), cores+d.upTo(3), " 0")
	}
	switch d.upTo(9) {
	case 0, 1, 2, 3:
		return d.call(spots(s, core), core)
	case 4, 5:
		return d.picks(cores)
	case 6:
		return fmt.Sprint("rounds ", d.upTo(60))
	case 7:
		return fmt.Sprintf("%s %d", d.one("slot", "slot", "read"), core) + " " + d.to(spots(s, core), -1)
	}
	return d.one("phases", "tree", "check", fmt.Sprint("replies ", core), "% a remark", "", "nothing", "tree 0")
}

// begins is a line new, not always one that goes.
func (d *dice) begins() string {
	return d.one("new 1 9 1024 1", "new 2 12 2048 1", "new 2 14 2048 2", "new 3 20 4096 2", "new 5 64 262144 4", "new 64 64 1024 3", "new 2 2 1024 1", "new 65 9 1024 1", "tree", "check", "rounds 5")
}

func (d *dice) call(l []spot, core int) string {
	some, none := d.to(l, -1), d.to(l, 0)
	of := func(word string) string { return fmt.Sprint(word, " ", core, " ") }
	switch d.upTo(20) {
	case 0, 1, 2, 3:
		return of("mint") + some + " " + none + " " + d.one("rwgc", "rwgc", "rw--", "r---", "----") + d.one(" 0", " 0", " 0", " 6", " 65536")
	case 4:
		return of("move") + d.to(l[2:], -1) + " " + none
	case 5, 6:
		return of("delete") + d.to(l[2:], -1)
	case 7, 8:
		return of("revoke") + some
	case 9, 10, 11:
		return of("retype") + d.to(l, api.TyUntyped) + " " + none + d.one(" 2 0", " 2 0", " 3 0", " 4 0", " 5 0", " 1 64", " 6 0", " 1 999999999")
	case 12:
		return of("read") + d.to(l, api.TyFrame)
	case 13:
		return of("write") + d.to(l, api.TyFrame) + " " + fmt.Sprint(d.upTo(1e9))
	case 14:
		return of("send") + d.to(l, api.TyEndpoint) + " " + fmt.Sprint(d.upTo(9))
	case 15:
		return of("give") + d.to(l, api.TyEndpoint) + " " + fmt.Sprint(d.upTo(9)) + " " + some
	case 16:
		return of("recv") + d.to(l, api.TyEndpoint)
	case 17:
		return of("take") + d.to(l, api.TyEndpoint) + " " + none
	case 18:
		return of(d.one("signal", "signal", "wait")) + d.to(l, api.TyNotice)
	}
	return of("look") + some
}

// picks is a line run: by chance, in bursts, with some of cores that there are not.
func (d *dice) picks(cores int) string {
	words := []string{"run"}
	for range 1 + d.upTo(30) {
		core := fmt.Sprint(d.upTo(cores + d.upTo(2)))
		words = append(words, slices.Repeat([]string{core}, 1+d.upTo(12)*d.upTo(2))...)
	}
	return strings.Join(words, " ")
}

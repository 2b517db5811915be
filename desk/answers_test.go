package desk

import (
	"fmt"
	"reflect"
	"strings"
	"testing"

	"garrison/api"
)

// sameKernel: both desks' kernels know the same.
func sameKernel(t *testing.T, a, b *Desk) {
	t.Helper()
	x, y := a.Kernel(), b.Kernel()
	if (x == nil) != (y == nil) {
		t.Fatal("one of them is none")
	}
	if x.Now() != y.Now() || !reflect.DeepEqual(x.State(), y.State()) || !reflect.DeepEqual(x.Hist(), y.Hist()) || !reflect.DeepEqual(x.Epochs(), y.Epochs()) || !reflect.DeepEqual(x.Locks(), y.Locks()) {
		t.Fatal("the kernels are not the same")
	}
}

// TestPhases: P22.2: a phase of each core, in order: one core, each phase there is, and as many cores as there can be.
func TestPhases(t *testing.T) {
	ask(t, New(), "new 1 9 1024 1", "ok", "phases", "0", "look 0 0", "ok", "run 0", "1", "phases", "1")
	d := begun(t, "new 6 9 1024 1")
	ask(t, d, "phases", "0 0 0 0 0 0",
		"recv 4 1", "ok", "rounds 40", "11", // it waits
		"look 1 0", "ok", "look 2 0", "ok", "look 3 0", "ok", "look 5 0", "ok",
		"phases", "0 0 0 0 4 0",
		"run 5 5 5 5 5 5 5 5 5 5 5", "11", // it has looked, and has its reply
		"run 3 3 3 3 3 3 3", "7", // it has looked, and lets its locks go
		"run 2 2", "2",
		"run 1", "1",
		"phases", "0 1 2 3 4 5")
	d = begun(t, "new 64 64 1024 4")
	ask(t, d, "phases", strings.TrimSuffix(strings.Repeat("0 ", 64), " "))
	for core := range 64 {
		ask(t, d, fmt.Sprint("look ", core, " 0"), "ok")
		if core%2 > 0 {
			ask(t, d, fmt.Sprint("run ", core), "1")
		}
	}
	ask(t, d, "phases", strings.TrimSuffix(strings.Repeat("0 1 ", 32), " "))
}

// TestReplies: P22.2: of each call of that core that is over the Code of its reply, and the Value, if there is anything else in it.
func TestReplies(t *testing.T) {
	d := begun(t, "new 2 9 1024 1")
	ask(t, d,
		"replies 0", "",
		"replies 1", "",
		"replies 2", "", // there is no such core
		"replies 999999999", "",
		"look 0 7", "ok", "replies 0", "", // it is not made
		"run 0 0 0", "3", "replies 0", "", // it is not over
		"rounds 50", "5", "replies 0", "0", // with the Value 0
		"look 0 0", "ok", "rounds 50", "12", "replies 0", "0 0/16777457", // with a Value
		"read 0 0", "ok", "read 0 7", "ok", "read 0 7.7", "ok", "mint 0 0 7 rwgc 65536", "ok", "rounds 100", "30",
		"replies 0", "0 0/16777457 172 7 120 150",
		"replies 1", "",
		"replies 2", "",
		"replies 00", "error 220")
	ask(t, New(),
		"new 2 9 1024 1", "ok",
		"mint 0 1 2 rwg- 9", "ok", "rounds 50", "14",
		"send 0 2 0", "ok", "recv 1 1", "ok", "rounds 50", "34",
		"replies 0", "0 0",
		"replies 1", "0/0", // with a Badge alone
		"give 0 1 0 2", "ok", "take 1 1 3", "ok", "rounds 50", "40",
		"replies 0", "0 0 0/0", // with Cap alone
		"replies 1", "0/0 0/0",
		"send 0 1 0", "ok", "recv 1 1", "ok", "rounds 50", "38",
		"replies 0", "0 0 0/0 0",
		"replies 1", "0/0 0/0 0", // with none of them
		"give 0 2 77 2", "ok", "recv 1 1", "ok", "rounds 50", "38",
		"replies 0", "0 0 0/0 0 0",
		"replies 1", "0/0 0/0 0 0/77", // with a Value and a Badge: the Badge is not told
		"recv 1 1", "ok", "rounds 50", "13",
		"replies 1", "0/0 0/0 0 0/77") // it waits
}

// TestBelowZero: P22.2: a number below 0 has a - ahead. A line writes none: it comes by way of Kernel.
func TestBelowZero(t *testing.T) {
	d := begun(t, "new 1 9 1024 1", "retype 0 0 2 3 0")
	for _, v := range []int64{-5, -1 << 63, 1<<63 - 1} {
		if e := d.Kernel().Load(0, api.Call{Kind: api.CaWrite, A: 0x81, Value: v}); e != api.OK {
			t.Fatal(e)
		}
		ask(t, d, "read 0 2", "ok")
	}
	d.Line("rounds 1000")
	ask(t, d, "replies 0", "0 0 0/-5 0 0/-9223372036854775808 0 0/9223372036854775807")
}

// TestManyReplies: P22.2: as many calls as a core can have at once, and some more.
func TestManyReplies(t *testing.T) {
	d := begun(t, "new 1 9 1024 1")
	for range api.MaxCalls {
		ask(t, d, "look 0 1", "ok")
	}
	ask(t, d, "rounds 16000", "12000", "look 0 6", "ok", "rounds 50", "8",
		"replies 0", strings.Repeat("0/33554676 ", api.MaxCalls)+"0")
	ask(t, d, "check", "ok")
}

// TestSlot: P22.2: what is at the place of a core's address, or error 120.
func TestSlot(t *testing.T) {
	d := begun(t, "new 3 20 4096 2") // nodes 0 and 1, untyped 2 and 3, endpoint 4; core 1 begins at node 1
	ask(t, d,
		"slot 0 0", "untyped 2.0 rwgc",
		"slot 1 0", "untyped 3.0 rwgc",
		"slot 2 0", "untyped 2.0 rwgc",
		"slot 0 1", "endpoint 4.0 rwgc",
		"slot 0 2", "none",
		"slot 0 7", "none",
		"slot 0 2.0", "error 120", // nothing leads on
		"slot 0 0.0", "error 120", // no node
		"slot 0 7.7.7.7", "error 120",
		"slot 3 0", "error 120", // there is no such core
		"slot 64 0", "error 120",
		"slot 999999999 0", "error 120",
		"slot 0 8", "error 220",
		"slot 0", "error 220",
		"retype 0 0 2 2 0", "ok", "mint 0 2 2.3 r--- 0", "ok", "mint 0 2 3 -w-c 0", "ok", "mint 0 1 2.7 rw-- 65535", "ok", "rounds 300", "68",
		"slot 0 2", "node 6.0 rwgc",
		"slot 0 2.3", "node 6.0 r---",
		"slot 2 2.3", "node 6.0 r---",
		"slot 0 2.3.3", "node 6.0 r---",
		"slot 0 2.3.3.3", "node 6.0 r---",
		"slot 0 2.3.3.7", "endpoint 4.0 rw-- 65535",
		"slot 0 2.3.3.6", "none",
		"slot 0 2.7.0", "error 120",
		"slot 0 3", "node 6.0 -w-c",
		"slot 0 3.7", "error 120", // it may not be read
		"slot 1 2", "none",
		"slot 1 2.3", "error 120")
}

// TestGenerations: P22.2: slot tells the generation that an object's place has.
func TestGenerations(t *testing.T) {
	d := begun(t, "new 1 4 1024 1")
	for gen := range 5 {
		ask(t, d, "retype 0 0 5 5 0", "ok")
		d.Line("rounds 100")
		ask(t, d, "slot 0 5", fmt.Sprint("notice 3.", gen, " rwgc"), "delete 0 5", "ok")
		d.Line("rounds 100")
		ask(t, d, "slot 0 5", "none", "check", "ok")
	}
}

// TestTree: P22.2: depth, object and slot of each branch; none, and as many as there is room for.
func TestTree(t *testing.T) {
	d := begun(t, "new 2 9 1024 1", "delete 0 1", "delete 0 0")
	ask(t, d,
		"tree", "0:0.0 0:0.1",
		"rounds 100", "30",
		"replies 0", "0 0",
		"tree", "", // nothing is left
		"slot 1 0", "none",
		"check", "ok")
	d = New()
	ask(t, d,
		"new 1 9 1024 1", "ok",
		"mint 0 1 2 rwgc 0", "ok", "mint 0 2 3 rwgc 0", "ok", "mint 0 3 4 rwgc 0", "ok", "mint 0 1 7 rwgc 0", "ok",
		"rounds 200", "58",
		"tree", "0:0.0 0:0.1 1:0.7 1:0.2 2:0.3 3:0.4",
		"revoke 0 2", "ok", "run"+strings.Repeat(" 0", 30), "30",
		"tree", "0:0.0 0:0.1 1:0.7 1:0.2 2:0.3 3:0.4") // marks are not told
	if !d.Kernel().State().Tree[4].Mark {
		t.Fatal("nothing is marked")
	}
}

// TestBigTree: P22.2: nodes in nodes, each of whose slots has something that was derived from the one ahead.
func TestBigTree(t *testing.T) {
	d := begun(t, "new 1 64 262144 1")
	want, obj := " 0:0.1", 2
	node := func(path string) {
		obj++
		ask(t, d, "retype 0 0 "+path+" 2 0", "ok")
	}
	for i := 2; i < 8; i++ {
		node(fmt.Sprint(i))
		want = fmt.Sprintf(" 1:0.%d", i) + want
	}
	for i := 2; i < 8; i++ {
		for j := range 8 {
			path := fmt.Sprint(i, ".", j)
			node(path)
			block := fmt.Sprintf(" 1:%d.%d", i+1, j)
			from := path
			for k := range 8 {
				ask(t, d, fmt.Sprint("mint 0 ", from, " ", path, ".", k, " rwgc 0"), "ok")
				from = fmt.Sprint(path, ".", k)
				block += fmt.Sprintf(" %d:%d.%d", k+2, obj, k)
			}
			want = block + want // each is right behind what it was made from
		}
	}
	d.Line("rounds 20000")
	ask(t, d, "tree", "0:0.0"+want, "phases", "0", "slot 0 7.7.7", "node 56.0 rwgc", "check", "ok")
	if n := strings.Count(want, " "); n != 439 {
		t.Fatal(n)
	}
}

// TestCheck: P22.2: check is answered with ok: of a new kernel, in the middle of calls, behind a revocation, behind another new.
func TestCheck(t *testing.T) {
	d := begun(t, "new 3 20 4096 2", "check", "retype 0 0 2 2 0", "check", "mint 0 1 2.0 rwg- 0", "mint 2 1 3 rwg- 0", "recv 1 1", "take 0 2.0 4", "give 2 3 5 3", "revoke 2 1", "look 1 0", "check")
	for range 300 {
		d.Line("run 0 1 2 2")
		ask(t, d, "check", "ok")
	}
	ask(t, d, "phases", "4 0 0", "slot 0 2.0", "none", "new 1 5 64 1", "ok", "check", "ok")
}

// TestCheckIsAsked: P22.2: check asks the history, from what the kernel was made of: it is not always ok, if one reaches behind the lines.
func TestCheckIsAsked(t *testing.T) {
	line := func(d *Desk) string { return d.Line("check") }
	d := begun(t, "new 2 9 1024 1", "retype 0 0 2 3 0", "look 0 2")
	d.Line("rounds 90")
	if got := line(d); got != "ok" {
		t.Fatal(got)
	}
	for _, made := range []numbers{{2, 10, 1024, 2}, {2, 9, 4, 1}, {2, 4, 1024, 1}, {1, 9, 1024, 1}} {
		other := *d
		other.made = made
		if got := line(&other); got != "error 200" {
			t.Fatal(made, got)
		}
	}
}

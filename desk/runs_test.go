package desk

import (
	"reflect"
	"slices"
	"strings"
	"testing"

	"garrison/api"
	"garrison/call"
)

// sameTold: a desk's kernel and that of the second telling know the same.
func sameTold(t *testing.T, d *Desk, same *tale) {
	t.Helper()
	sameKernel(t, d, &Desk{kernel: same.k})
	if same.k != nil && d.made != (numbers{same.cores, same.objs, same.space, same.domains}) {
		t.Fatal(d.made, same)
	}
}

// written are lines, each such that it mostly fits to how things are behind those ahead, and what is answered to them.
func written(dd *dice, n int) ([]string, string) {
	d, out := New(), ""
	var l []string
	for range n {
		s := dd.line(d.Kernel())
		l = append(l, s)
		out += d.Line(s) + "\n"
	}
	return l, out
}

func joined(l []string) string { return strings.Join(l, "\n") + "\n" }

// TestLongRuns: P22.2, P22.3: long scripts are answered as the second telling has it, as line by line, and the same twice.
func TestLongRuns(t *testing.T) {
	dd := dice(1)
	first := map[string]int{}
	kinds := map[string]int{}
	for range 120 {
		l, out := written(&dd, 399)
		l, out = append(l, "check"), out+"ok\n" // not an empty one, which would be none without its line feed
		d, again, same := New(), New(), &tale{}
		ran(t, d, joined(l), out)
		ran(t, again, strings.TrimSuffix(joined(l), "\n"), out)
		if got := same.run(joined(l)); got != out {
			t.Fatalf("%q, want %q", out, got)
		}
		sameTold(t, d, same)
		sameKernel(t, d, again)
		for i, one := range strings.Split(strings.TrimSuffix(out, "\n"), "\n") {
			if word, _, _ := strings.Cut(l[i], " "); !strings.HasPrefix(one, "error") {
				first[word]++
			}
		}
		if k := d.Kernel(); k != nil {
			for _, s := range k.Hist().Spans {
				if s.End > 0 && s.Reply.Code == api.OK {
					kinds[call.Name(s.Call.Kind)]++
				}
			}
		}
	}
	for _, s := range samples {
		if word := strings.Fields(s)[0]; first[word] < 20 {
			t.Fatal(word, first)
		}
	}
	if len(kinds) != api.MaxCall { // each kind was done, not just asked for
		t.Fatal(kinds)
	}
}

// TestCutInTwo: P22.5: a script that is cut in two behind a line feed is answered as in one, wherever it is cut; and cut behind each line.
func TestCutInTwo(t *testing.T) {
	dd := dice(5)
	for range 12 {
		l, out := written(&dd, 80)
		whole := New()
		ran(t, whole, joined(l), out)
		for i := range len(l) + 1 {
			d := New()
			front, back := joined(l[:i]), joined(l[i:])
			if i == 0 {
				front = ""
			}
			if i == len(l) {
				back = ""
			}
			a, e1 := d.Run(front)
			b, e2 := d.Run(back)
			if e1 != api.OK || e2 != api.OK || a+b != out || front+back != joined(l) {
				t.Fatalf("%d: %q %q, want %q", i, a, b, out)
			}
			sameKernel(t, d, whole)
		}
		d, all := New(), ""
		for _, s := range l {
			a, _ := d.Run(s + "\n")
			all += a
		}
		if all != out {
			t.Fatalf("%q, want %q", all, out)
		}
		sameKernel(t, d, whole)
	}
}

// TestCutLong: P22.5: as many lines as a script may have, cut in some places, also into more than two.
func TestCutLong(t *testing.T) {
	dd := dice(9)
	for range 20 {
		l, out := written(&dd, 400)
		cuts := []int{dd.upTo(401), dd.upTo(401), dd.upTo(401), 400}
		slices.Sort(cuts)
		d, all, from := New(), "", 0
		for _, to := range cuts {
			a, e := d.Run(strings.Join(append(slices.Clone(l[from:to]), ""), "\n"))
			if e != api.OK {
				t.Fatal(e)
			}
			all, from = all+a, to
		}
		if all != out {
			t.Fatalf("%v: %q, want %q", cuts, all, out)
		}
	}
}

// TestCheckBehindEach: P22.5: check behind each line is answered with ok, if there is a kernel, and else with error 7; it changes nothing.
func TestCheckBehindEach(t *testing.T) {
	dd := dice(3)
	for range 40 {
		l, out := written(&dd, 120)
		answers := strings.Split(out, "\n")
		d, plain := New(), New()
		ran(t, plain, joined(l), out)
		for i, s := range l {
			ask(t, d, s, answers[i])
			want := "ok"
			if d.Kernel() == nil {
				want = "error 7"
			}
			ask(t, d, "check", want)
		}
		sameKernel(t, d, plain)
	}
}

// TestLooksOnly: P22.2: what looks at things alone changes nothing: phases, replies, slot, tree, check, and lines that mean nothing.
func TestLooksOnly(t *testing.T) {
	dd := dice(7)
	for range 30 {
		l, out := written(&dd, 60)
		d, plain := New(), New()
		ran(t, plain, joined(l), out)
		for i, s := range l {
			ask(t, d, s, strings.Split(out, "\n")[i])
			for _, look := range []string{"phases", "replies 0", "slot 0 2", "slot 9 2.0", "tree", "check", "x", "tree x", "", "% x", "rounds 0", "rounds 20001", "run 64", "new 0 9 1024 1"} {
				d.Line(look)
			}
		}
		sameKernel(t, d, plain)
	}
}

// TestApart: P22.3: two desks have nothing in common, and lines that were answered stay as they are.
func TestApart(t *testing.T) {
	dd := dice(11)
	l, out := written(&dd, 300)
	m, more := written(&dd, 300)
	a, b := New(), New()
	outA, outB := "", ""
	for i := range 300 {
		outA += a.Line(l[i]) + "\n"
		outB += b.Line(m[i]) + "\n"
	}
	if outA != out || outB != more || reflect.DeepEqual(out, more) {
		t.Fatal("one desk is not as if the other were not there")
	}
}

package desk

import (
	"strings"
	"testing"

	"garrison/api"
)

// ran: a script is answered so, and with OK.
func ran(t *testing.T, d *Desk, script, want string) {
	t.Helper()
	if got, e := d.Run(script); got != want || e != api.OK {
		t.Fatalf("%.60q: %.200q %d, want %.200q", script, got, e, want)
	}
}

// refused: a script is answered with this error, and nothing of it is done.
func refused(t *testing.T, d *Desk, script string, want api.Errno) {
	t.Helper()
	k := d.Kernel()
	if got, e := d.Run(script); got != "" || e != want || d.Kernel() != k {
		t.Fatalf("%.60q: %.200q %d, want %d", script, got, e, want)
	}
}

// TestScript: P22.3: the answers of the lines, each with a line feed behind it.
func TestScript(t *testing.T) {
	ran(t, New(), "", "")
	ran(t, New(), "\n", "\n")
	ran(t, New(), "\n\n\n", "\n\n\n")
	ran(t, New(), " ", "\n")
	ran(t, New(), "% x", "\n")
	ran(t, New(), "tree", "error 7\n")
	ran(t, New(), "tree\n", "error 7\n")
	ran(t, New(), "tree\n\n", "error 7\n\n")
	ran(t, New(), "\ntree", "\nerror 7\n")
	ran(t, New(), "tree\n ", "error 7\n\n")
	ran(t, New(), "x\ntree\n%\n\nnew 0 0 0 0", "error 220\nerror 7\n\n\nerror 2\n")
	ran(t, New(), "tree\r\n% x\r\n\r\n", "error 220\n\nerror 220\n")
	d := New()
	ran(t, d, "new 2 9 1024 1\nretype 0 0 2 3 0\nrounds 40\nslot 0 2", "ok\nok\n14\nframe 4.0 rwgc\n")
	ran(t, d, "phases\nslot 0 2\n\nnew 1 9 64 1\nslot 0 2\n", "0 0\nframe 4.0 rwgc\n\nok\nnone\n")
	ran(t, d, "", "")
	ran(t, d, "run\x000", "error 220\n")
	ran(t, d, strings.Repeat("%", 2048)+"\n"+strings.Repeat("%", 2049)+"\ntree", "\nerror 1\n0:0.0 0:0.1\n")
}

// TestManyLines: P22.3: a script has at most MaxLines lines; what stands behind the last line feed is one, if it is not empty.
func TestManyLines(t *testing.T) {
	for _, one := range []struct{ line, want string }{{"", ""}, {"tree", "error 7"}, {" ", ""}, {"x", "error 220"}} {
		lines := func(n int) string { return strings.Repeat(one.line+"\n", n) }
		ran(t, New(), lines(399), strings.Repeat(one.want+"\n", 399))
		ran(t, New(), lines(400), strings.Repeat(one.want+"\n", 400))
		ran(t, New(), lines(399)+"x", strings.Repeat(one.want+"\n", 399)+"error 220\n")
		refused(t, New(), lines(400)+"x", api.ErrMany)
		refused(t, New(), lines(400)+" ", api.ErrMany)
		refused(t, New(), lines(401), api.ErrMany)
		refused(t, New(), lines(4000), api.ErrMany)
	}
	refused(t, New(), "new 2 9 1024 1\n"+strings.Repeat("\n", 400), api.ErrMany)
	d := begun(t, "new 2 9 1024 1", "look 0 0")
	refused(t, d, strings.Repeat("run 0\n", 401), api.ErrMany)
	ask(t, d, "phases", "0 0")
}

// TestLongScript: P22.3: a script has at most MaxScript bytes, which is asked ahead of how many lines there are.
func TestLongScript(t *testing.T) {
	line := "phases" + strings.Repeat(" ", 2041) + "\n" // 2048 bytes
	d := begun(t, "new 2 9 1024 1")
	ran(t, d, strings.Repeat(line, 32), strings.Repeat("0 0\n", 32))
	ran(t, d, strings.Repeat(line, 31)+line[:2047]+"x", strings.Repeat("0 0\n", 31)+"error 220\n")
	ran(t, d, strings.Repeat("%", 65536), "error 1\n")
	ran(t, d, strings.Repeat("%", 65535)+"\n", "error 1\n")
	refused(t, d, strings.Repeat(line, 32)+"\n", api.ErrLong)
	refused(t, d, strings.Repeat(line, 32)+" ", api.ErrLong)
	refused(t, d, "new 1 9 1024 1\n"+strings.Repeat(" ", 65536-14), api.ErrLong)
	refused(t, d, strings.Repeat("%", 65537), api.ErrLong)
	refused(t, d, strings.Repeat("\n", 65536), api.ErrMany)
	refused(t, d, strings.Repeat("\n", 65537), api.ErrLong)
	refused(t, d, strings.Repeat("x\n", 1<<20), api.ErrLong)
	refused(t, New(), "new 1 9 1024 1\n"+strings.Repeat(" ", 65536-14), api.ErrLong)
	ran(t, New(), "new 1 9 1024 1\n"+strings.Repeat("\n", 399), "ok\n"+strings.Repeat("\n", 399))
}

// TestKernel: P22.3: the kernel that there is, the same one each time until there is another; what is done with it is seen by lines.
func TestKernel(t *testing.T) {
	d := New()
	if d.Kernel() != nil {
		t.Fatal("a new desk has a kernel")
	}
	ran(t, d, "tree\nnew 0 9 1024 1\n", "error 7\nerror 2\n")
	if d.Kernel() != nil {
		t.Fatal("a kernel that was refused")
	}
	ran(t, d, "new 2 9 1024 1\nlook 1 0\nrun 1 1", "ok\nok\n2\n")
	k := d.Kernel()
	if k == nil || k.Now() != 2 || k.Phase(1) != api.CoLock || k.Phase(0) != api.CoIdle || k.Left(1) != 0 {
		t.Fatal(k)
	}
	if e := k.Load(0, api.Call{Kind: api.CaRetype, A: 1, B: 0x81, Type: api.TyNotice}); e != api.OK || k.Run(0, 0, 0) != 3 {
		t.Fatal(e)
	}
	ask(t, d, "phases", "2 2", "rounds 90", "42", "slot 0 2", "notice 4.0 rwgc", "replies 1", "0/16777457", "check", "ok")
	if d.Kernel() != k {
		t.Fatal("another kernel")
	}
	ask(t, d, "new 2 9 1024 1", "ok", "tree", "0:0.0 0:0.1")
	if d.Kernel() == k || d.Kernel().Now() != 0 || k.Now() != 47 {
		t.Fatal("not another kernel", k.Now())
	}
}

// TestNil: P22.4: what a nil Desk answers, whatever the line or the script.
func TestNil(t *testing.T) {
	var d *Desk
	for _, s := range append([]string{"", " ", "% x", "x", "phases 1", "new 0 0 0 0", strings.Repeat("x", 2049), "\n", "\xff"}, samples...) {
		ask(t, d, s, "error 7")
		refused(t, d, s, api.ErrNone)
	}
	refused(t, d, strings.Repeat("\n", 401), api.ErrNone)
	refused(t, d, strings.Repeat("x", 65537), api.ErrNone)
	if d.Kernel() != nil {
		t.Fatal("a kernel")
	}
}

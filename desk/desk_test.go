package desk

import (
	"fmt"
	"slices"
	"strings"
	"testing"

	"garrison/api"
)

// TestNew: P22.1: a desk without a kernel, each of its own.
func TestNew(t *testing.T) {
	d, other := New(), New()
	if d == nil || d == other || d.Kernel() != nil {
		t.Fatal(d, other)
	}
	ask(t, d, "tree", "error 7", "new 1 9 1024 1", "ok")
	if d.Kernel() == nil || other.Kernel() != nil {
		t.Fatal("the one has a kernel, the other has none")
	}
}

// TestExample: the chapter's example, and a longer one.
func TestExample(t *testing.T) {
	ask(t, New(),
		"new 2 9 1024 1", "ok",
		"retype 0 0 2 3 0", "ok",
		"rounds 40", "14",
		"slot 0 2", "frame 4.0 rwgc")
	ask(t, New(),
		"new 2 9 1024 2", "ok", // nodes 0 and 1, untyped 2 and 3, endpoint 4
		"retype 0 0 2 3 0", "ok",
		"write 0 2 7", "ok",
		"mint 0 2 3 r--- 0", "ok",
		"give 0 1 9 3", "ok",
		"take 1 1 5", "ok",
		"read 1 5", "ok",
		"rounds 300", "90",
		"replies 0", "0 0 0 0/0",
		"replies 1", "0/9 0/7",
		"slot 1 5", "frame 6.0 r---",
		"tree", "0:0.0 1:0.2 2:0.3 3:1.5 0:0.1 0:1.0 0:1.1",
		"revoke 0 2", "ok",
		"rounds 100", "80",
		"slot 1 5", "none",
		"tree", "0:0.0 1:0.2 0:0.1 0:1.0 0:1.1",
		"check", "ok")
}

// TestLong: P22.2: a line of MaxLine bytes is taken, whatever its bytes are; one of one more is error 1 ahead of all else.
func TestLong(t *testing.T) {
	d := begun(t, "new 2 9 1024 1")
	fill := func(front, more string, n int) string {
		return front + strings.Repeat(more, n)[:n-len(front)]
	}
	if len(fill("tree", " ", 2048)) != 2048 {
		t.Fatal("2048 bytes")
	}
	l := []struct{ front, more, want string }{
		{"phases", " ", "0 0"},
		{"", " ", ""},
		{"%", "x", ""},
		{"", "\x00", "error 220"},
		{"", "é", "error 220"},
		{"run 1", " 1", "0"},
		{"new 0 0 0 0", " ", "error 2"},
		{"rounds 5", " ", "0"},
	}
	for _, one := range l {
		ask(t, d,
			fill(one.front, one.more, 2047), one.want,
			fill(one.front, one.more, 2048), one.want,
			fill(one.front, one.more, 2049), "error 1",
			fill(one.front, one.more, 1<<16), "error 1")
		ask(t, New(), fill(one.front, one.more, 2049), "error 1")
	}
}

// TestWords: P22.2: a line without words, or a remark, is answered with the empty text; blanks part words, nothing else does.
func TestWords(t *testing.T) {
	for _, s := range []string{"", " ", "      ", "%", "% x", "%x", "%%", "   %", "  % new 1 9 1024 1", "%\t", "% tree\x00"} {
		ask(t, New(), s, "")
		ask(t, begun(t, "new 1 9 1024 1"), s, "")
	}
	d := begun(t, "new 2 9 1024 1")
	ask(t, d,
		" phases", "0 0",
		"phases ", "0 0",
		"    phases     ", "0 0",
		"rounds     3", "0",
		"  run   0   1  ", "0",
		"  retype  0  0   2  3  0 ", "ok",
		"new     2 9    1024 1   ", "ok",
		"phases %", "error 220",
		"phases % a remark", "error 220",
		"tree\t", "error 220",
		"\ttree", "error 220",
		"\t% x", "error 220",
		"\t", "error 220",
		"rounds\t3", "error 220",
		"rounds \t3", "error 220",
		"tree\n", "error 220",
		"\n", "error 220",
		"tree\r", "error 220",
		"tree\v", "error 220",
		"rounds\u00a03", "error 220",
		"rounds\u20033", "error 220",
		"rounds,3", "error 220",
		"\u00a0", "error 220",
		"\xff", "error 220",
		"tree\x00", "error 220")
}

// TestFirst: P22.2: each first word has a line; each other one is error 220, with a kernel and without.
func TestFirst(t *testing.T) {
	for _, s := range samples {
		if got := begun(t, "new 2 9 1024 1").Line(s); strings.HasPrefix(got, "error") {
			t.Fatal(s, got)
		}
	}
	others := []string{"x", "mint2", "min", "call", "load", "step", "hist", "left", "cell 0", "held 0", "trace 5", "image", "audit", "wing", "0", "-", "ok", "error 7", "nil", "newt 1 9 1024 1", "new1 9 1024 1", "renew 1 9 1024 1"}
	for _, s := range others {
		ask(t, New(), s, "error 220")
		ask(t, begun(t, "new 1 9 1024 1"), s, "error 220")
	}
	for _, s := range samples {
		word := strings.Fields(s)[0]
		for _, big := range []string{strings.ToUpper(word), strings.ToUpper(word[:1]) + word[1:]} {
			s := strings.Replace(s, word, big, 1)
			ask(t, New(), s, "error 220")
			ask(t, begun(t, "new 1 9 1024 1"), s, "error 220")
		}
	}
}

// TestOther: P22.2: a word too few, whichever is missing, and a word too many are error 220, named ahead of a kernel that is not there.
func TestOther(t *testing.T) {
	for _, s := range samples {
		words := strings.Fields(s)
		var l []string
		for i := range words {
			l = append(l, strings.Join(slices.Delete(slices.Clone(words), i, i+1), " "))
		}
		for _, more := range []string{"0", "1", "0 0", "r---", "x", "%", "% 0"} {
			if words[0] != "run" || more[0] != '0' && more != "1" {
				l = append(l, s+" "+more)
			}
		}
		for _, one := range l {
			want := "error 220"
			if one == "" {
				want = ""
			}
			ask(t, New(), one, want)
			ask(t, begun(t, "new 2 9 1024 1"), one, want)
		}
	}
	ask(t, begun(t, "new 2 9 1024 1"),
		"mint 0 2 r--- 0", "error 220",
		"mint 0 0 2 0", "error 220",
		"mint 0 0 r--- 2 0", "error 220",
		"retype 0 0 2 3", "error 220",
		"give 0 1 0 7 0", "error 220",
		"recv 0 1 2", "error 220",
		"take 0 1", "error 220",
		"send 0 1 7 0", "error 220",
		"give 0 1 7", "error 220",
		"run", "error 220",
		"new", "error 220")
}

// TestWithout: P22.2: without a kernel each line but new is error 7, if it is one at all.
func TestWithout(t *testing.T) {
	d := New()
	for _, s := range samples[1:] {
		ask(t, d, s, "error 7")
	}
	ask(t, d,
		"rounds 0", "error 7",
		"rounds 999999999", "error 7", // there is no core yet
		"slot 99 7.7.7.7", "error 7",
		"slot 0 8", "error 220",
		"mint 0 0 2 rwg 0", "error 220",
		"look 0 0 0", "error 220",
		"new 0 9 1024 1", "error 2",
		"tree", "error 7",
		"% x", "",
		"", "")
	if d.Kernel() != nil {
		t.Fatal("a kernel")
	}
	ask(t, d, samples[0], "ok", "tree", "0:0.0 0:0.1")
}

// badNumbers are no numbers: P22.2.
var badNumbers = []string{"1000000000", "0000000000", "00", "01", "007", "000000001", "-1", "-0", "+1", "+0", "1-", "1.", ".1", "1.0", "1e3", "0x1", "1_0", "1,0", "x", "a", "/", ":", "%", "\x001", "1\x00", "१", "１", "²", "9999999999", "18446744073709551616", "4294967296", "10000000000000000000000000000000000000000", "\t1", "1\t", "r---", "\xb1"}

// TestNumbers: P22.2: a number is 1 to 9 digits, the first one not 0 but in 0 itself, wherever a number stands.
func TestNumbers(t *testing.T) {
	for _, s := range samples {
		words := strings.Fields(s)
		for i, at := range places(s, "N") {
			for _, bad := range badNumbers {
				words := slices.Clone(words)
				words[at] = bad
				ask(t, begun(t, "new 2 9 1024 1"), strings.Join(words, " "), "error 220")
				ask(t, New(), strings.Join(words, " "), "error 220")
			}
			for _, good := range []string{"0", "1", "9", "10", "90", "100000000", "999999999"} {
				words := slices.Clone(words)
				words[at] = good
				d, same := begun(t, "new 2 9 1024 1"), &tale{}
				same.line("new 2 9 1024 1")
				line := strings.Join(words, " ")
				if want, got := same.line(line), d.Line(line); got != want || got == "error 220" && words[0] != "rounds" {
					t.Fatal(line, i, got, want)
				}
			}
		}
	}
	d := begun(t, "new 1 9 1024 1", "retype 0 0 2 3 0")
	for _, n := range []string{"0", "1", "9", "10", "101", "99999999", "100000000", "999999999"} {
		ask(t, d, "write 0 2 "+n, "ok")
		ask(t, d, "read 0 2", "ok")
	}
	d.Line("rounds 2000")
	ask(t, d, "replies 0", "0 0 0 0 0/1 0 0/9 0 0/10 0 0/101 0 0/99999999 0 0/100000000 0 0/999999999")
}

// places are where such a word stands in a line, by its pattern.
func places(s, sign string) []int {
	words := strings.Fields(s)
	p := strings.NewReplacer("(?: N)+", " N").Replace(patterns()[words[0]])
	var l []int
	for i, one := range strings.Split(p, " ") {
		if one == sign {
			l = append(l, i)
		}
	}
	return l
}

// TestAddresses: P22.2: an address is 1 to MaxLevels digits 0 to 7 with points between, wherever an address stands.
func TestAddresses(t *testing.T) {
	bad := []string{"8", "9", "0.8", "8.0", "0.0.0.8", "0..0", "0..", "..0", ".0", "0.", ".", "..", "...", "0.0.0.0.0", "0.0.0.0.", ".0.0.0.0", "7.7.7.7.7.7", "00", "10", "0.00", "00.0", "-1", "-", "+0", "0,0", "0:0", "0/0", "0-0", "x", "0.x", "x.0", "/", "0./", "%", "r---", "\xb0", "0.\xb0", "１", "0．0", "0 .0", "\t0", "0\t", strings.Repeat("0.", 300) + "0"}
	good := map[string]uint64{"0": 1, "3": 0xc1, "7": 0x1c1, "0.0": 2, "3.1": 0x10c2, "7.7": 0x71c2, "1.2.3": 0xc2043, "0.0.0.0": 4, "7.7.7.7": 0x71c71c4, "1.2.3.4": 4 | 1<<6 | 2<<12 | 3<<18 | 4<<24}
	for _, s := range samples {
		words := strings.Fields(s)
		for i, at := range places(s, "A") {
			for _, one := range bad {
				words := slices.Clone(words)
				words[at] = one
				ask(t, begun(t, "new 2 9 1024 1"), strings.Join(words, " "), "error 220")
				ask(t, New(), strings.Join(words, " "), "error 220")
			}
			for one, w := range good {
				words := slices.Clone(words)
				words[at] = one
				if words[0] == "slot" {
					continue // not a call: TestSlot
				}
				c := called(t, strings.Join(words, " ")).Call
				if got := []uint64{c.A, c.B}[i]; got != w {
					t.Fatalf("%v: %x, want %x", words, got, w)
				}
			}
		}
	}
}

// TestRights: P22.2: rights are those of rights.Parse.
func TestRights(t *testing.T) {
	for _, bad := range []string{"rwg", "rwgcc", "rwg ", "RWGC", "wrgc", "cgwr", "rwg.", "rwxc", "----r", "15", "0", "7", "r", "-", "-----", "r-w-", "rw\x00-", "rwé", "%---"} {
		ask(t, begun(t, "new 2 9 1024 1"), "mint 0 0 2 "+bad+" 0", "error 220")
		ask(t, New(), "mint 0 0 2 "+bad+" 0", "error 220")
	}
	for r, text := range []string{"----", "r---", "-w--", "rw--", "--g-", "r-g-", "-wg-", "rwg-", "---c", "r--c", "-w-c", "rw-c", "--gc", "r-gc", "-wgc", "rwgc"} {
		if c := called(t, "mint 0 0 2 "+text+" 0").Call; c.Rights != r {
			t.Fatal(text, c)
		}
	}
}

// called is the one call that is made by a line.
func called(t *testing.T, line string) api.Span {
	t.Helper()
	d := begun(t, "new 3 9 1024 1", line)
	d.Line("rounds 60")
	l := d.Kernel().Hist().Spans
	if len(l) != 1 {
		t.Fatal(line, l)
	}
	return l[0]
}

// TestCalls: P22.2: what call each line lets a core make.
func TestCalls(t *testing.T) {
	l := []struct {
		line string
		core int
		call api.Call
	}{
		{"mint 0 1 2 rw-- 9", 0, api.Call{Kind: api.CaMint, A: 0x41, B: 0x81, Rights: 3, Badge: 9}},
		{"mint 2 1 2.3 ---- 0", 2, api.Call{Kind: api.CaMint, A: 0x41, B: 0x3082}},
		{"mint 1 0 2 rwgc 999999999", 1, api.Call{Kind: api.CaMint, A: 1, B: 0x81, Rights: 15, Badge: 999999999}},
		{"move 1 1 2", 1, api.Call{Kind: api.CaMove, A: 0x41, B: 0x81}},
		{"delete 2 1", 2, api.Call{Kind: api.CaDelete, A: 0x41}},
		{"revoke 0 1", 0, api.Call{Kind: api.CaRevoke, A: 0x41}},
		{"retype 1 0 2 3 0", 1, api.Call{Kind: api.CaRetype, A: 1, B: 0x81, Type: 3}},
		{"retype 1 0 2 1 64", 1, api.Call{Kind: api.CaRetype, A: 1, B: 0x81, Type: 1, Size: 64}},
		{"retype 1 0 2 999999999 999999998", 1, api.Call{Kind: api.CaRetype, A: 1, B: 0x81, Type: 999999999, Size: 999999998}},
		{"retype 1 0 2 0 1", 1, api.Call{Kind: api.CaRetype, A: 1, B: 0x81, Size: 1}},
		{"read 0 3", 0, api.Call{Kind: api.CaRead, A: 0xc1}},
		{"write 2 3 77", 2, api.Call{Kind: api.CaWrite, A: 0xc1, Value: 77}},
		{"send 0 1 5", 0, api.Call{Kind: api.CaSend, A: 0x41, Value: 5}},
		{"give 0 1 5 2", 0, api.Call{Kind: api.CaSend, A: 0x41, B: 0x81, Value: 5}},
		{"give 0 1 0 0", 0, api.Call{Kind: api.CaSend, A: 0x41, B: 1}},
		{"recv 1 1", 1, api.Call{Kind: api.CaRecv, A: 0x41}},
		{"take 1 1 2", 1, api.Call{Kind: api.CaRecv, A: 0x41, B: 0x81}},
		{"signal 2 3", 2, api.Call{Kind: api.CaSignal, A: 0xc1}},
		{"wait 2 3", 2, api.Call{Kind: api.CaWait, A: 0xc1}},
		{"look 0 7", 0, api.Call{Kind: api.CaLook, A: 0x1c1}},
	}
	for _, one := range l {
		if s := called(t, one.line); s.Core != one.core || s.Call != one.call {
			t.Fatal(one.line, s)
		}
	}
}

// TestLoad: P22.2: a call is put behind those that the core has, and is not made yet; Load's errors.
func TestLoad(t *testing.T) {
	d := New()
	ask(t, d, "new 2 9 1024 1", "ok")
	for i, s := range samples[1:15] {
		ask(t, d, s, "ok")
		if d.Kernel().Left(0) != i+1 || d.Kernel().Left(1) != 0 || d.Kernel().Now() != 0 {
			t.Fatal(s, d.Kernel().Left(0))
		}
	}
	for _, s := range samples[1:15] {
		words := strings.Fields(s)
		for _, core := range []string{"2", "64", "999999999"} {
			words[1] = core
			ask(t, d, strings.Join(words, " "), "error 2")
		}
		words[1] = "1"
		ask(t, d, strings.Join(words, " "), "ok")
	}
	ask(t, d, "new 1 9 1024 1", "ok")
	for range api.MaxCalls {
		ask(t, d, "look 0 0", "ok")
	}
	ask(t, d,
		"look 0 0", "error 6",
		"look 1 0", "error 2",
		"run 0", "1",
		"look 0 0", "ok",
		"recv 0 1", "error 6")
}

// TestNewLine: P22.2: new makes a kernel of these numbers, in place of the one there is; one that is refused leaves that as it is.
func TestNewLine(t *testing.T) {
	refused := []string{"0 9 1024 1", "65 9 1024 1", "2 2 1024 1", "2 65 1024 1", "2 9 0 1", "2 9 3 1", "2 9 1048576 1", "2 9 1024 0", "2 9 1024 5", "2 4 1024 2", "0 0 0 0", "999999999 9 1024 1", "2 999999999 1024 1", "2 9 999999999 1", "2 9 1024 999999999"}
	d := New()
	for _, s := range refused {
		ask(t, d, "new "+s, "error 2")
	}
	if d.Kernel() != nil {
		t.Fatal("a kernel")
	}
	ask(t, d, "new 2 12 1024 2", "ok", "retype 1 0 2 2 0", "ok", "rounds 30", "16", "look 0 0", "ok", "run 0 0", "2")
	k := d.Kernel()
	for _, s := range refused {
		ask(t, d, "new "+s, "error 2")
	}
	if k != d.Kernel() || k.Now() != 18 {
		t.Fatal("another kernel", k.Now())
	}
	ask(t, d,
		"phases", "2 0",
		"slot 1 2", "node 5.0 rwgc",
		"tree", "0:0.0 0:0.1 0:1.0 1:1.2 0:1.1",
		"check", "ok",
		"new 3 9 64 1", "ok",
		"phases", "0 0 0",
		"tree", "0:0.0 0:0.1",
		"replies 1", "",
		"slot 1 2", "none",
		"slot 2 0", "untyped 1.0 rwgc",
		"check", "ok")
	if k == d.Kernel() || k.Now() != 18 || d.Kernel().Now() != 0 {
		t.Fatal("not a new kernel")
	}
	ask(t, d, "new 3 9 64 1", "ok")
	for _, s := range []string{"1 3 16 1", "64 64 262144 4", "1 9 262144 4"} {
		ask(t, d, "new "+s, "ok", "check", "ok")
	}
}

// TestRunLine: P22.2: run picks cores, those too that there are not, and tells how many did something.
func TestRunLine(t *testing.T) {
	d := begun(t, "new 2 9 1024 1")
	ask(t, d,
		"run 0", "0",
		"run 0 1 0 1 1", "0",
		"look 1 0", "ok",
		"run 0", "0",
		"run 1", "1",
		"phases", "0 1",
		"run 1 0 1 0 2 999999999 1 64", "3",
		"run 2 3 4", "0")
	if d.Kernel().Now() != 4 {
		t.Fatal(d.Kernel().Now())
	}
	for range 300 {
		ask(t, d, "look 0 0", "ok")
	}
	ask(t, d,
		"run"+strings.Repeat(" 0", 1022), "1022", // 2047 bytes
		"run"+strings.Repeat(" 0", 1023), "error 1",
		" run"+strings.Repeat(" 0", 1022), "1022",
		"run"+strings.Repeat(" 0", 1021)+" x", "error 220",
		"run"+strings.Repeat(" 0", 1021)+" 3", "1021")
	if d.Kernel().Now() != 4+3*1022-1 {
		t.Fatal(d.Kernel().Now())
	}
}

// TestRounds: P22.2: rounds are steps of each core, in their order; n times the cores are at most MaxRun.
func TestRounds(t *testing.T) {
	for cores, most := range map[int]int{1: 20000, 2: 10000, 3: 6666, 7: 2857, 63: 317, 64: 312} {
		d := begun(t, fmt.Sprintf("new %d 9 1024 1", cores))
		ask(t, d, "look 0 0", "ok")
		for _, n := range []int{most + 1, most + 2, 20001, 999999999, 288230377, 67108864, 33554433} {
			ask(t, d, fmt.Sprint("rounds ", n), "error 220")
		}
		if d.Kernel().Now() != 0 {
			t.Fatal("a step was done")
		}
		ask(t, d,
			"rounds 0", "0",
			"rounds 1", "1",
			fmt.Sprint("rounds ", most), "11",
			"phases", strings.TrimSuffix(strings.Repeat("0 ", cores), " "))
	}
	d := begun(t, "new 3 9 1024 1", "look 0 0", "look 1 0", "look 2 0")
	same := begun(t, "new 3 9 1024 1", "look 0 0", "look 1 0", "look 2 0")
	for range 60 {
		if a, b := d.Line("rounds 1"), same.Line("run 0 1 2"); a != b {
			t.Fatal(a, b)
		}
	}
	ask(t, d, "rounds 5", "0", "phases", "0 0 0")
	whole := begun(t, "new 3 9 1024 1", "look 0 0", "look 1 0", "look 2 0")
	whole.Line("rounds 60")
	sameKernel(t, d, same)
	sameKernel(t, d, whole)
}

package desk

import (
	"fmt"
	"regexp"
	"strconv"
	"strings"
	"testing"

	"garrison/api"
	"garrison/cap"
	"garrison/kernel"
	"garrison/lin"
	"garrison/model"
)

// ask has lines, each with what is answered to it behind it, asked in their order.
func ask(t *testing.T, d *Desk, l ...string) {
	t.Helper()
	for i := 0; i < len(l); i += 2 {
		if got := d.Line(l[i]); got != l[i+1] {
			t.Fatalf("line %d, %q: %q, want %q", i/2, l[i], got, l[i+1])
		}
	}
}

// begun is a desk behind these lines, all of which are answered ok.
func begun(t *testing.T, l ...string) *Desk {
	t.Helper()
	d := New()
	for _, s := range l {
		ask(t, d, s, "ok")
	}
	return d
}

// samples are lines that may be, one of each first word, and how many words each has at least; run may have more.
var samples = []string{
	"new 2 9 1024 1",
	"mint 0 0 2 r--- 0",
	"move 0 0 2",
	"delete 0 0",
	"revoke 0 0",
	"retype 0 0 2 3 0",
	"read 0 0",
	"write 0 0 7",
	"send 0 1 7",
	"give 0 1 7 0",
	"recv 0 1",
	"take 0 1 2",
	"signal 0 0",
	"wait 0 0",
	"look 0 0",
	"run 0",
	"rounds 3",
	"phases",
	"replies 0",
	"slot 0 0",
	"tree",
	"check",
}

// What follows is a second telling of the chapter, word by word: what a line may be is told by patterns.

// tale is a desk, told again.
type tale struct {
	k                           *kernel.Kernel
	cores, objs, space, domains int
}

// patterns are of the words behind each first one: N is a number, A an address, R rights.
func patterns() map[string]string {
	return map[string]string{
		"new":     " N N N N",
		"mint":    " N A A R N",
		"move":    " N A A",
		"delete":  " N A",
		"revoke":  " N A",
		"read":    " N A",
		"signal":  " N A",
		"wait":    " N A",
		"look":    " N A",
		"retype":  " N A A N N",
		"write":   " N A N",
		"send":    " N A N",
		"give":    " N A N A",
		"recv":    " N A",
		"take":    " N A A",
		"run":     "(?: N)+",
		"rounds":  " N",
		"phases":  "",
		"replies": " N",
		"slot":    " N A",
		"tree":    "",
		"check":   "",
	}
}

// compiled are the patterns, with blanks ahead of, between and behind the words.
var compiled = func() map[string]*regexp.Regexp {
	all := map[string]*regexp.Regexp{}
	wide := strings.NewReplacer(
		" ", " +",
		"N", "(?:0|[1-9][0-9]{0,8})",
		"A", "[0-7](?:[.][0-7]){0,3}",
		"R", "[r-][w-][g-][c-]",
	)
	for word, p := range patterns() {
		all[word] = regexp.MustCompile(`\A *` + word + wide.Replace(p) + ` *\z`)
	}
	return all
}()

// nothing is a line without words, or a remark.
var nothing = regexp.MustCompile(`\A *(?:%|\z)`)

func (d *tale) line(s string) string {
	if len(s) > 2048 {
		return "error 1"
	}
	if nothing.MatchString(s) {
		return ""
	}
	for word, p := range compiled {
		if p.MatchString(s) {
			if d.k == nil && word != "new" {
				return "error 7"
			}
			return d.does(strings.Fields(s))
		}
	}
	return "error 220"
}

func toldNumber(s string) int {
	n, _ := strconv.Atoi(s)
	return n
}

// toldPath are the slots that an address names.
func toldPath(s string) []int {
	var l []int
	for _, one := range strings.Split(s, ".") {
		l = append(l, toldNumber(one))
	}
	return l
}

// toldWord is P12.2, of an address without guards.
func toldWord(s string) uint64 {
	l := toldPath(s)
	w := uint64(len(l))
	for i, slot := range l {
		w |= uint64(slot) << (6 + 6*i)
	}
	return w
}

func toldRights(s string) int {
	r := 0
	for i, sign := range s {
		if sign != '-' {
			r += 1 << i
		}
	}
	return r
}

func toldError(e api.Errno) string {
	if e == api.OK {
		return "ok"
	}
	return fmt.Sprint("error ", int(e))
}

// does is what a line does whose words are such as the table has.
func (d *tale) does(w []string) string {
	switch w[0] {
	case "new":
		c, o, s, m := toldNumber(w[1]), toldNumber(w[2]), toldNumber(w[3]), toldNumber(w[4])
		k, e := kernel.New(c, o, s, m)
		if e == api.OK {
			*d = tale{k, c, o, s, m}
		}
		return toldError(e)
	case "run":
		did := 0
		for _, one := range w[1:] {
			did += d.k.Run(toldNumber(one))
		}
		return fmt.Sprint(did)
	case "rounds":
		n := toldNumber(w[1])
		if n*d.cores > 20000 {
			return "error 220"
		}
		did := 0
		for i := range n * d.cores {
			did += d.k.Run(i % d.cores)
		}
		return fmt.Sprint(did)
	case "phases":
		out := ""
		for core := range d.cores {
			out += fmt.Sprint(" ", d.k.Phase(core))
		}
		return strings.TrimPrefix(out, " ")
	case "replies":
		return d.replies(toldNumber(w[1]))
	case "slot":
		return d.slot(toldNumber(w[1]), toldPath(w[2]))
	case "tree":
		out := ""
		for _, b := range d.k.State().Tree {
			out += fmt.Sprintf(" %d:%d.%d", b.Depth, b.Key.Obj, b.Key.Slot)
		}
		return strings.TrimPrefix(out, " ")
	case "check":
		s, _ := model.New(d.cores, d.objs, d.space, d.domains)
		_, e := lin.Check(s, d.k.Hist())
		return toldError(e)
	}
	return toldError(d.k.Load(toldNumber(w[1]), toldCall(w)))
}

// toldCall is the call that a line asks for.
func toldCall(w []string) api.Call {
	a := toldWord(w[2])
	kinds := map[string]int{"mint": 1, "move": 2, "delete": 3, "revoke": 4, "retype": 5, "read": 6, "write": 7, "send": 8, "give": 8, "recv": 9, "take": 9, "signal": 10, "wait": 11, "look": 12}
	c := api.Call{Kind: kinds[w[0]], A: a}
	switch w[0] {
	case "mint":
		c.B, c.Rights, c.Badge = toldWord(w[3]), toldRights(w[4]), toldNumber(w[5])
	case "move", "take":
		c.B = toldWord(w[3])
	case "retype":
		c.B, c.Type, c.Size = toldWord(w[3]), toldNumber(w[4]), toldNumber(w[5])
	case "write", "send":
		c.Value = int64(toldNumber(w[3]))
	case "give":
		c.Value, c.B = int64(toldNumber(w[3])), toldWord(w[4])
	}
	return c
}

func (d *tale) replies(core int) string {
	out := ""
	for _, s := range d.k.Hist().Spans {
		if s.Core != core || s.End == 0 {
			continue
		}
		out += fmt.Sprint(" ", int(s.Reply.Code))
		if s.Reply.Value != 0 || s.Reply.Badge != 0 || s.Reply.Cap {
			out += fmt.Sprint("/", s.Reply.Value)
		}
	}
	return strings.TrimPrefix(out, " ")
}

// slot goes the way itself, with guards 0: P12.3.
func (d *tale) slot(core int, path []int) string {
	s := d.k.State()
	if core >= len(s.Roots) {
		return "error 120"
	}
	c := api.Cap{Type: api.TyNode, Rights: api.All, Obj: s.Roots[core]}
	for _, slot := range path {
		if c.Type != api.TyNode || c.Rights&api.Read == 0 || c.Badge != 0 {
			return "error 120"
		}
		c = s.Nodes[c.Obj][slot]
	}
	return cap.Text(c)
}

func (d *tale) run(script string) string {
	out, line := "", ""
	for i := range len(script) {
		if script[i] != '\n' {
			line += script[i : i+1]
			continue
		}
		out += d.line(line) + "\n"
		line = ""
	}
	if line != "" {
		out += d.line(line) + "\n"
	}
	return out
}

package desk

import (
	"strconv"
	"strings"

	"garrison/addr"
	"garrison/api"
	"garrison/cap"
	"garrison/kernel"
	"garrison/lin"
	"garrison/model"
)

// row is what a first word asks.
type row struct {
	form string // a sign for each word behind it: a core, the fields of a call (a, b, rights, badge, type, size, value), or a number
	more bool   // as the last of form, more may come
	bare bool   // no kernel need be there
	kind int    // of the call
	do   func(*Desk, asked) string
}

// rows has all first words.
func rows() map[string]row {
	return map[string]row{
		"new":     {form: "nnnn", bare: true, do: (*Desk).begin},
		"mint":    {form: "cabrg", kind: api.CaMint, do: (*Desk).load},
		"move":    {form: "cab", kind: api.CaMove, do: (*Desk).load},
		"delete":  {form: "ca", kind: api.CaDelete, do: (*Desk).load},
		"revoke":  {form: "ca", kind: api.CaRevoke, do: (*Desk).load},
		"retype":  {form: "cabts", kind: api.CaRetype, do: (*Desk).load},
		"read":    {form: "ca", kind: api.CaRead, do: (*Desk).load},
		"write":   {form: "cav", kind: api.CaWrite, do: (*Desk).load},
		"send":    {form: "cav", kind: api.CaSend, do: (*Desk).load},
		"give":    {form: "cavb", kind: api.CaSend, do: (*Desk).load},
		"recv":    {form: "ca", kind: api.CaRecv, do: (*Desk).load},
		"take":    {form: "cab", kind: api.CaRecv, do: (*Desk).load},
		"signal":  {form: "ca", kind: api.CaSignal, do: (*Desk).load},
		"wait":    {form: "ca", kind: api.CaWait, do: (*Desk).load},
		"look":    {form: "ca", kind: api.CaLook, do: (*Desk).load},
		"run":     {form: "n", more: true, do: (*Desk).run},
		"rounds":  {form: "n", do: (*Desk).rounds},
		"phases":  {do: (*Desk).phases},
		"replies": {form: "c", do: (*Desk).replies},
		"slot":    {form: "ca", do: (*Desk).slot},
		"tree":    {do: (*Desk).tree},
		"check":   {do: (*Desk).check},
	}
}

// told is how a line that answers nothing else says whether all is well.
func told(e api.Errno) string {
	if e == api.OK {
		return "ok"
	}
	return "error " + strconv.Itoa(int(e))
}

// begin leaves the kernel that is there, if a new one is refused.
func (d *Desk) begin(q asked) string {
	n := numbers{q.nums[0], q.nums[1], q.nums[2], q.nums[3]}
	k, e := kernel.New(n.cores, n.objs, n.space, n.domains)
	if e == api.OK {
		d.kernel, d.made = k, n
	}
	return told(e)
}

func (d *Desk) load(q asked) string { return told(d.kernel.Load(q.core, q.call)) }

func (d *Desk) run(q asked) string { return strconv.Itoa(d.kernel.Run(q.nums...)) }

func (d *Desk) rounds(q asked) string {
	n := q.nums[0]
	if n > api.MaxRun/d.made.cores { // not multiplied: the product need not fit
		return told(api.ErrLine)
	}
	did := 0
	for range n {
		for core := range d.made.cores {
			if d.kernel.Step(core) {
				did++
			}
		}
	}
	return strconv.Itoa(did)
}

func (d *Desk) phases(asked) string {
	var out []string
	for core := range d.made.cores {
		out = append(out, strconv.Itoa(d.kernel.Phase(core)))
	}
	return strings.Join(out, " ")
}

func (d *Desk) replies(q asked) string {
	var out []string
	for _, s := range d.kernel.Hist().Spans {
		if s.Core == q.core && s.End != 0 {
			out = append(out, replyText(s.Reply))
		}
	}
	return strings.Join(out, " ")
}

func replyText(r api.Reply) string {
	code := strconv.Itoa(int(r.Code))
	if (r == api.Reply{Code: r.Code}) {
		return code
	}
	return code + "/" + strconv.FormatInt(r.Value, 10)
}

func (d *Desk) slot(q asked) string {
	s := d.kernel.State()
	steps, _ := addr.Parse(q.call.A) // it is a word that Put made
	at, _, e := addr.Find(s.Nodes, model.Root(s, q.core), steps)
	if e != api.OK {
		return told(e)
	}
	c, _ := addr.Get(s.Nodes, at)
	return cap.Text(c)
}

func (d *Desk) tree(asked) string {
	var out []string
	for _, b := range d.kernel.State().Tree {
		out = append(out, strconv.Itoa(b.Depth)+":"+strconv.Itoa(b.Key.Obj)+"."+strconv.Itoa(b.Key.Slot))
	}
	return strings.Join(out, " ")
}

func (d *Desk) check(asked) string {
	s, _ := model.New(d.made.cores, d.made.objs, d.made.space, d.made.domains)
	_, e := lin.Check(s, d.kernel.Hist())
	return told(e)
}

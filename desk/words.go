package desk

import (
	"strings"

	"garrison/addr"
	"garrison/api"
	"garrison/rights"
)

const (
	blank     = ' '
	remark    = "%"
	point     = "."
	maxDigits = 9
)

// asked is what the words of a line say.
type asked struct {
	core int
	call api.Call
	nums []int
}

// wordsOf parts a line by blanks alone: a tab belongs to a word, and so spoils it.
func wordsOf(s string) []string {
	return strings.FieldsFunc(s, func(r rune) bool { return r == blank })
}

// read answers what the words say, and whether they are such as the row has.
func (r row) read(words []string) (asked, bool) {
	q := asked{call: api.Call{Kind: r.kind}}
	if len(words) < len(r.form) || len(words) > len(r.form) && !r.more {
		return q, false
	}
	for i, word := range words {
		if !q.take(r.form[min(i, len(r.form)-1)], word) {
			return q, false
		}
	}
	return q, true
}

// take keeps what a word says where its sign, of a row's form, tells to; false: no such thing is said by it.
func (q *asked) take(sign byte, word string) bool {
	ok := false
	switch sign {
	case 'a':
		q.call.A, ok = address(word)
	case 'b':
		q.call.B, ok = address(word)
	case 'r':
		r, e := rights.Parse(word)
		q.call.Rights, ok = r, e == api.OK
	case 'c':
		q.core, ok = number(word)
	case 'g':
		q.call.Badge, ok = number(word)
	case 't':
		q.call.Type, ok = number(word)
	case 's':
		q.call.Size, ok = number(word)
	case 'v':
		n, is := number(word)
		q.call.Value, ok = int64(n), is
	case 'n':
		n, is := number(word)
		q.nums, ok = append(q.nums, n), is
	}
	return ok
}

// number answers what the decimal digits say: so few of them that it fits into any int.
func number(word string) (int, bool) {
	if len(word) < 1 || len(word) > maxDigits || word[0] == '0' && word != "0" {
		return 0, false
	}
	n := 0
	for _, digit := range []byte(word) {
		if digit < '0' || digit > '9' {
			return 0, false
		}
		n = 10*n + int(digit-'0')
	}
	return n, true
}

// address answers the word of an address without guards.
func address(word string) (uint64, bool) {
	var steps []api.Step
	for _, digit := range strings.Split(word, point) {
		if len(digit) != 1 { // it would be no digit, or several
			return 0, false
		}
		steps = append(steps, api.Step{Index: int(digit[0]) - '0'})
	}
	w, e := addr.Put(steps...) // asks how many there are, and whether each is from 0 to 7
	return w, e == api.OK
}

// Package bits is layer 1: see shared/doc/01-bits.md.
package bits

import (
	"garrison/api"
	"iter"
)

const (
	wide      = 64 // bits of a word
	digitWide = 4  // bits of a digit
)

// In rising order, as bytes are: so texts rise as words do.
var digits = [1 << digitWide]byte{'0', '1', '2', '3', '4', '5', '6', '7', '8', '9', 'a', 'b', 'c', 'd', 'e', 'f'}

// isField does not add at and n up: their sum may wrap round.
func isField(at, n int) bool {
	return 1 <= n && n <= wide && 0 <= at && at <= wide-n
}

// Get, Put, Mask: P1.1, P1.2.
func Get(w uint64, at, n int) uint64 {
	if !isField(at, n) { // a shift by a number below 0 would panic
		return 0
	}
	return (w & Mask(at, n)) >> at
}

func Put(w uint64, at, n int, v uint64) (uint64, api.Errno) {
	if !isField(at, n) {
		return 0, api.ErrArg
	}
	if v > Mask(0, n) {
		return 0, api.ErrBits
	}
	return w&^Mask(at, n) | v<<at, api.OK
}

func Mask(at, n int) uint64 {
	if !isField(at, n) {
		return 0
	}
	return ^uint64(0) >> (wide - n) << at
}

// ones yields the bits that are set, the least one first.
func ones(w uint64) iter.Seq[int] {
	return func(yield func(int) bool) {
		for k := range wide {
			if w>>k&1 == 1 && !yield(k) {
				return
			}
		}
	}
}

// Count, Low, High, Next: P1.3.
func Count(w uint64) int {
	n := 0
	for range ones(w) {
		n++
	}
	return n
}

func Low(w uint64) (int, bool) {
	return Next(w, 0)
}

func High(w uint64) (int, bool) {
	high, found := 0, false
	for k := range ones(w) {
		high, found = k, true
	}
	return high, found
}

func Next(w uint64, at int) (int, bool) {
	for k := range ones(w) {
		if k >= at {
			return k, true
		}
	}
	return 0, false
}

// Text, Parse: P1.4.
func Text(w uint64) string {
	var text [wide / digitWide]byte
	for i := range text {
		text[i] = digits[Get(w, wide-digitWide*(i+1), digitWide)]
	}
	return string(text[:])
}

func Parse(s string) (uint64, api.Errno) {
	if len(s) != wide/digitWide {
		return 0, api.ErrBits
	}
	w := uint64(0)
	for i := range len(s) { // by bytes: a sign of several bytes is no digit
		v, ok := digitValue(s[i])
		if !ok {
			return 0, api.ErrBits
		}
		w = w<<digitWide | v
	}
	return w, api.OK
}

// digitValue takes the digits that Text writes alone: upper-case ones are none.
func digitValue(c byte) (uint64, bool) {
	for v, d := range digits {
		if d == c {
			return uint64(v), true
		}
	}
	return 0, false
}

package desk

import (
	"strings"
	"testing"
)

// twice is a desk and its second telling, behind the same lines.
func twice(l ...string) (*Desk, *tale) {
	d, same := New(), &tale{}
	for _, s := range l {
		d.Line(s)
		same.line(s)
	}
	return d, same
}

// sameLine: both answer a line alike, in one line.
func sameLine(t *testing.T, d *Desk, same *tale, s string) string {
	t.Helper()
	want := same.line(s)
	got := d.Line(s)
	if got != want || strings.Contains(got, "\n") {
		t.Fatalf("%q: %q, want %q", s, got, want)
	}
	return got
}

// TestEveryByte: P22.2: each byte there is, wherever it stands in a line: no panic, and nothing but a blank, a digit, a point or a letter in its place means anything.
func TestEveryByte(t *testing.T) {
	start := []string{"new 2 9 1024 1", "retype 0 0 2 2 0", "rounds 40"}
	for _, s := range samples {
		d, same := twice(start...)
		for b := range 256 {
			one := string([]byte{byte(b)})
			for at := range len(s) + 1 {
				sameLine(t, d, same, s[:at]+one+s[at:])
				if at < len(s) {
					sameLine(t, d, same, s[:at]+one+s[at+1:])
				}
			}
			if d.Kernel().Left(0) > 900 {
				d, same = twice(start...)
			}
		}
		sameTold(t, d, same)
	}
	for b := range 256 {
		for _, l := range [][]string{nil, start} {
			d, same := twice(l...)
			one := string([]byte{byte(b)})
			for _, s := range []string{one, one + one, " " + one, one + " ", one + "tree", "tree" + one, "tree " + one, "%" + one, one + "%", strings.Repeat(one, 2048), strings.Repeat(one, 2049)} {
				sameLine(t, d, same, s)
			}
		}
	}
}

// TestTwoBytes: P22.2: any two bytes alone.
func TestTwoBytes(t *testing.T) {
	d, same := twice("new 2 9 1024 1")
	for b := range 1 << 16 {
		sameLine(t, d, same, string([]byte{byte(b >> 8), byte(b)}))
	}
}

// TestSpoiled: P22.2, P22.3: lines with some bytes changed, put in, or left out, and words that have changed places, asked of a desk and of the second telling.
func TestSpoiled(t *testing.T) {
	dd := dice(22)
	const signs = "0123456789..  %-rwgc\tx\x00\xff\n/:"
	for range 60 {
		d, same := twice("new 2 12 2048 2")
		for range 400 {
			s := dd.line(d.Kernel())
			for range dd.upTo(3) {
				at := dd.upTo(len(s) + 1)
				sign := string(signs[dd.upTo(len(signs))])
				switch dd.upTo(4) {
				case 0:
					s = s[:at] + sign + s[at:]
				case 1:
					s = s[:at] + s[min(at+1, len(s)):]
				case 2:
					s = s[:at] + sign + s[min(at+1, len(s)):]
				case 3:
					words := strings.Split(s, " ")
					i, j := dd.upTo(len(words)), dd.upTo(len(words))
					words[i], words[j] = words[j], words[i]
					s = strings.Join(words, " ")
				}
			}
			sameLine(t, d, same, s)
		}
		sameTold(t, d, same)
	}
}

// TestAllBytesScript: P22.3: a script of all bytes there are, forwards and backwards.
func TestAllBytesScript(t *testing.T) {
	var up, down []byte
	for b := range 256 {
		up = append(up, byte(b))
		down = append(down, byte(255-b))
	}
	ran(t, New(), string(up), "error 220\nerror 220\n")
	ran(t, New(), string(down), "error 220\nerror 220\n")
}

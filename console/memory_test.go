package console_test

import (
	"fmt"
	"slices"
	"strings"
	"testing"

	"idshift/api"
	"idshift/console"
)

// whole sessions: of all kinds of lines, and of power that fails.
func sessions() [][]string {
	x := die(132)
	l := [][]string{nil, {""}, {"fly"}, slices.Concat(peopled, looks()), slices.Concat(peopled, []string{"cut 70", "1 be 3 3", "boot"}, looks())}
	for _, line := range changes {
		l = append(l, slices.Concat(peopled, []string{"0 list /", "cut 40", line, "0 list /", "left", "boot", "0 list /", line}))
	}
	for range 40 {
		lines := []string{first}
		for len(lines) < api.MaxLines {
			line := drawnLine(&x)
			switch x.n(12) {
			case 0:
				line = fmt.Sprint("cut ", x.n(200))
			case 1, 2:
				line = "boot"
			}
			lines = append(lines, line)
		}
		l = append(l, lines)
	}
	return l
}

// The same lines make the same answers, cuts too; other sessions in between are nothing to them.
func TestZ2TheSameAgain(t *testing.T) {
	var want [][]string
	for _, lines := range sessions() {
		want = append(want, run(t, 300, lines...))
	}
	for i, lines := range sessions() {
		run(t, 250, slices.Concat(peopled, []string{"cut 5", "0 put /d/f 420 -"})...)
		if got := run(t, 300, lines...); !slices.Equal(got, want[i]) {
			t.Errorf("%q: %q, not %q", lines, got, want[i])
		}
	}
}

// The answers to a beginning of the lines are the beginning of the answers to all.
func TestK1Beginnings(t *testing.T) {
	for _, lines := range sessions() {
		all := run(t, 300, lines...)
		for n := range lines {
			if got := run(t, 300, lines[:n]...); !slices.Equal(got, all[:n]) {
				t.Fatalf("%q: %q, not %q", lines[:n], got, all[:n])
			}
		}
	}
}

// Lines are not written into, and lines behind the end of the list are not read.
func TestZ2HandedIn(t *testing.T) {
	for _, lines := range sessions() {
		want := run(t, 300, lines...)
		more := append(slices.Clone(lines), "0 put /behind 420 -", "unbox 0", "fly")
		before := slices.Clone(more)
		got := run(t, 300, more[:len(lines)]...)
		if !slices.Equal(got, want) {
			t.Errorf("%q: %q, not %q", lines, got, want)
		}
		if !slices.Equal(more, before) {
			t.Errorf("lines have become %q, they were %q", more, before)
		}
		// They are not kept: what was answered stays when they are spoilt.
		for i := range more {
			more[i] = "spoilt"
		}
		if !slices.Equal(got, want) {
			t.Errorf("answers have become %q, they were %q", got, want)
		}
	}
	for _, n := range []int{api.MaxLines, api.MaxLines + 1} {
		more := many("left", 2*api.MaxLines)
		_, err := console.Run(300, more[:n])
		if (err == nil) != (n == api.MaxLines) || !slices.Equal(more, many("left", 2*api.MaxLines)) {
			t.Errorf("%d lines, more behind them: %q, %v", n, more, err)
		}
	}
}

// Answers are the caller's: when they are spoilt, to the end of their memory, others stay as they were.
func TestZ2HandedOut(t *testing.T) {
	for _, lines := range sessions() {
		before := slices.Clone(lines)
		one, other := run(t, 300, lines...), run(t, 300, lines...)
		want := slices.Clone(one)
		one = one[:cap(one)]
		for i := range one {
			one[i] = "spoilt"
		}
		if !slices.Equal(other, want) || !slices.Equal(lines, before) || !slices.Equal(run(t, 300, lines...), want) {
			t.Errorf("%q: %q, not %q", lines, other, want)
		}
	}
}

// Any text is answered, and so that the answer is one.
func TestZ1AnyText(t *testing.T) {
	x := die(133)
	for range 300 {
		lines := []string{first, "0 make /a 511"}
		for len(lines) < api.MaxLines {
			line := drawnLine(&x)
			for range 1 + x.n(4) {
				line = bent(&x, line)
			}
			if x.n(8) == 0 {
				b := make([]byte, x.n(420))
				for i := range b {
					b[i] = byte(x.n(256))
				}
				line = of(&x, "", "0 ", "0 stat ", "0 put /a/", "box ", "0 set / u.a ") + string(b)
			}
			lines = append(lines, line)
		}
		for i, got := range run(t, of(&x, 200, 300, 2000), lines...) {
			if got == "" || strings.ContainsAny(got, "\t\n=") || len(got) > 2*api.MaxData && !strings.Contains(got, " ") {
				t.Errorf("%q => %q", lines[i], got)
			}
			var n int
			if _, err := fmt.Sscanf(got, "error %d", &n); strings.HasPrefix(got, "error") && (err != nil || n < 1 || n > 17 || got != fmt.Sprint("error ", n)) {
				t.Errorf("%q => %q", lines[i], got)
			}
		}
	}
}

// Very long lines, and very many.
func TestZ1Long(t *testing.T) {
	long := 1 << 22
	for _, line := range []string{strings.Repeat(" ", long), strings.Repeat("0", long), "0 put /f 420 " + strings.Repeat("00", long/2), "box 1 " + strings.Repeat("0:0:1,", long/6) + "0:0:1 - 0 0 0 -", "box 1 - - 0 0 0 " + strings.Repeat("0,", long/2) + "0"} {
		if got := last(t, 300, []string{first}, line); got != noLine {
			t.Errorf("%q..: %s", line[:20], got)
		}
	}
	refused(t, 300, make([]string, 1000000), api.ErrMany)
}

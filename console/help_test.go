package console_test

import (
	"slices"
	"strings"
	"testing"

	"idshift/console"
)

// noLine: the answer to what is no line.
const noLine = "error 17"

// off: the answer when power has failed.
const off = "error 16"

// first: a box of one who can do all, with users and groups from 0 to 19.
const first = "box 8 0:1000:20 0:1000:20 0 0 15 -"

// run lines that are answered one by one.
func run(t *testing.T, blocks int, lines ...string) []string {
	t.Helper()
	l, err := console.Run(blocks, lines)
	if err != nil || len(l) != len(lines) {
		t.Fatalf("%d blocks, %q: %q, %v", blocks, lines, l, err)
	}
	return l
}

// told: a session, written down as the document has it: a line, ' => ', its answer.
func told(t *testing.T, blocks int, session string) {
	t.Helper()
	var lines, want []string
	for _, s := range strings.Split(strings.TrimSpace(session), "\n") {
		line, answer, is := strings.Cut(s, " => ")
		if !is {
			t.Fatalf("%q is no line with its answer", s)
		}
		lines, want = append(lines, line), append(want, answer)
	}
	for i, got := range run(t, blocks, lines...) {
		if got != want[i] {
			t.Errorf("line %d: %q => %q, not %q", i, lines[i], got, want[i])
		}
	}
}

// last: the answer to a line behind others.
func last(t *testing.T, blocks int, ahead []string, line string) string {
	t.Helper()
	l := run(t, blocks, append(slices.Clone(ahead), line)...)
	return l[len(l)-1]
}

// die: numbers that look drawn, the same each time.
type die uint64

func (d *die) n(most int) int {
	*d = *d*6364136223846793005 + 1442695040888963407
	return int(uint64(*d>>33) % uint64(most))
}

// of these, one.
func of[T any](d *die, l ...T) T { return l[d.n(len(l))] }

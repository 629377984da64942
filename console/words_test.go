package console_test

import (
	"slices"
	"strings"
	"testing"
)

// shapes: all lines of both tables, by the kinds of their words; W is any word.
var shapes = []string{
	"box N M M N N N L", "unbox N", "unlower N", "seal N", "cut N", "boot", "left", "boxes", "lowers",
	"N stat W", "N list W", "N read W", "N get W W", "N put W N X", "N make W N", "N remove W", "N move W W", "N mode W N",
	"N own W I I", "N be I I", "N set W W X", "N drop W W", "N charge",
}

// plain: a word of each kind that makes a line of a shape.
var plain = map[string]string{"N": "1", "I": "1", "W": "/a", "X": "00", "M": "0:0:2", "L": "0"}

// right: words that are of a kind.
var right = map[string][]string{
	"N": {"0", "1", "9", "10", "4095", "4096", "65535", "65536", "90000", "99999"},
	"I": {"-1", "0", "1", "65535", "65536", "99999"},
	"W": {"/", "/a", "a", "//", "-", "-1", ".", "..", "/A", "/a/", "/a,b", "/a:b", "/a\tb", "\t", "\n", "\x00", "\xff", "\u00a0", "\u2003", "/ü", "0", "stat", "=>", "/123456789012/123456789012/123456789012/123456789012/123456789012/123456789012/1"},
	"X": {"-", "00", "ff", "0123456789abcdef", "2d", "20", strings.Repeat("a9", 30)},
	"M": {"-", "0:0:1", "0:0:0", "0:0:99999", "99999:99999:99999", "0:1000:10,10:5000:5", "0:0:1,0:0:1", "0:0:1,1:1:1,2:2:1,3:3:1,4:4:1,5:5:1"},
	"L": {"-", "0", "99999", "0,0", "0,1,2,3,4,5,6", "4,3,2"},
}

// wrong: words that are not of a kind, though they are near to it, or are of another one.
var wrong = map[string][]string{
	"N": {"-1", "-", "1,1", "0:0:1", "ff"},
	"I": {"-2", "-01", "--1", "-1 ", "-99999", "-", "-1,1", "0:0:1", "ff"},
	"X": {"0", "fff", "00f", "FF", "Ff", "fF", "0A", "0g", "g0", "-0", "0-", "-1", "--", "00-", "-00", "00,00", "00:00", "0x00", "f\xff", "/0", ":0", "`0", "@0"},
	"M": {"0", "0:0", "0:0:1:0", "0:0:1:", ":0:0:1", "0::1", ":0:1", "0:0:", "::", ":", ",", "0:0:1,", ",0:0:1", "0:0:1,,1:1:1", "0:0:1,1:1", "0:0,1:1:1", "0:0:1,-", "-,0:0:1", "--", "-1", "0:0:-1", "-1:0:1", "0:-1:1", "0:0:-", "-:0:1", "00:0:1", "0:00:1", "0:0:01", "0:0:100000", "100000:0:1", "0:100000:1", "0:0:1,0:0:01", "0;0;1", "0:0:1;1:1:1", "0:0:1,1", "a:b:c", "+0:0:1"},
	"L": {"0,", ",0", ",", "0,,1", "-,0", "0,-", "--", "-1", "0,-1", "00", "0,00", "0,01", "100000", "0,100000", "0:1", "0;1", "a", "0,a", "+0"},
}

// never: words that are of no kind but W.
var never = []string{
	"00", "01", "007", "00000", "012345", "000001", "100000", "999999", "1234567890", "18446744073709551617", "-0", "+0", "+1", "+-1", "-00001", "1-", "1.0", "1.", ".1", "1e1", "0x1", "0b1", "0o1", "1_0", "1a", "a1", "0\t", "\t0", "1\n", "\x001", "1\x00", "\xb2", "²", "٣", "０", "−1", "I", "N", "\"1\"",
}

// filled: a shape's words, plain ones for each kind.
func filled(shape string) []string {
	l := strings.Split(shape, " ")
	for i, kind := range l {
		if s, is := plain[kind]; is {
			l[i] = s
		}
	}
	return l
}

// alone: the answer to a line behind two boxes and a lower, on which each shape can do something.
func alone(t *testing.T, line string) string {
	t.Helper()
	return last(t, 300, []string{first, "box 8 0:3000:20 0:3000:20 0 0 15 -", "1 put /a 511 -", "seal 0"}, line)
}

// isLine, and isNone: is it answered as a line?
func isLine(t *testing.T, line string) {
	t.Helper()
	if got := alone(t, line); got == noLine {
		t.Errorf("%q => %s", line, got)
	}
}

func isNone(t *testing.T, line string) {
	t.Helper()
	if got := alone(t, line); got != noLine {
		t.Errorf("%q => %s, not %s", line, got, noLine)
	}
}

// Each word of each shape is one that is of its kind, or one that is not.
func TestK1K2Words(t *testing.T) {
	for _, shape := range shapes {
		isLine(t, strings.Join(filled(shape), " "))
		for i, kind := range strings.Split(shape, " ") {
			words := filled(shape)
			for _, words[i] = range right[kind] {
				isLine(t, strings.Join(words, " "))
			}
			for _, words[i] = range wrong[kind] {
				isNone(t, strings.Join(words, " "))
			}
			if kind == "W" {
				continue
			}
			for _, words[i] = range never {
				if kind != "X" || !evenHex(words[i]) {
					isNone(t, strings.Join(words, " "))
				}
			}
		}
	}
}

// evenHex: a number that happens to be bytes too.
func evenHex(s string) bool { return len(s)%2 == 0 && strings.Trim(s, "0123456789abcdef") == "" }

// A word too many, at each place, or too few.
func TestK2HowManyWords(t *testing.T) {
	for _, shape := range shapes {
		words := filled(shape)
		for i := range words {
			isNone(t, strings.Join(slices.Delete(slices.Clone(words), i, i+1), " "))
		}
		for i := range len(words) + 1 {
			for _, more := range []string{"0", "-", "x", "/a"} {
				isNone(t, strings.Join(slices.Insert(slices.Clone(words), i, more), " "))
			}
		}
	}
}

// A blank ahead, behind, or two between; another white byte for a blank; blanks alone.
func TestK2Blanks(t *testing.T) {
	for _, shape := range shapes {
		words := filled(shape)
		line := strings.Join(words, " ")
		for _, blank := range []string{" ", "  ", "\t", "\n", "\r"} {
			isNone(t, blank+line)
			if blank[0] == ' ' || !strings.HasSuffix(shape, "W") {
				isNone(t, line+blank)
			}
		}
		for i := 1; i < len(words); i++ {
			ahead, behind := strings.Join(words[:i], " "), strings.Join(words[i:], " ")
			for _, blank := range []string{"  ", "   ", "\t", "", "\u00a0"} {
				isNone(t, ahead+blank+behind)
			}
		}
		// Where a word that may be any is left out, two blanks don't stand for it.
		for i, kind := range strings.Split(shape, " ") {
			if kind == "W" || kind == "X" || kind == "M" || kind == "L" {
				words := filled(shape)
				words[i] = ""
				isNone(t, strings.Join(words, " "))
			}
		}
	}
	for _, line := range []string{"", " ", "  ", "   ", "\t", "\n", strings.Repeat(" ", 400)} {
		isNone(t, line)
	}
}

// First words that are none.
func TestK2FirstWords(t *testing.T) {
	for _, shape := range shapes {
		words := filled(shape)
		for i := range words {
			if _, is := plain[strings.Split(shape, " ")[i]]; is {
				continue
			}
			word := words[i]
			for _, other := range []string{strings.ToUpper(word), strings.ToUpper(word[:1]) + word[1:], word + "s", word[1:], word[:len(word)-1], "x" + word, word + ":", "fly", "-", "?"} {
				words[i] = other
				isNone(t, strings.Join(words, " "))
			}
		}
	}
	for _, line := range []string{"0", "1", "99999", "-1", "0 0", "0 box", "0 left", "0 boot", "0 boxes", "0 unbox 0", "0 seal 0", "0 fly", "stat /", "charge", "be 1 1", "-1 stat /", "-1 charge", "00 charge", "100000 charge", "- charge", "0,1 charge", "help", "box", "P", "N", "0 P", "N charge"} {
		isNone(t, line)
	}
}

// What is no line does nothing, also where it begins as one.
func TestK2DoesNothing(t *testing.T) {
	ahead := []string{first, "0 put /a 420 61", "seal 0"}
	behind := []string{"left", "boxes", "lowers", "0 list /", "0 read /a", "0 stat /a", "0 stat /", "0 charge", "0 put /new 420 -", "0 stat /new"}
	want := run(t, 300, slices.Concat(ahead, behind)...)[len(ahead):]
	for _, line := range []string{
		"", "box 1 0:0:1 0:0:1 0 0 0 0,", "box 1 0:0:1 0:0:1 0 0 0 - -", "unbox 0 0", "unbox 00", "unlower 0 ", "seal 0 0", "seal -1", "cut 0 0", "cut 00", " cut 0",
		"0 put /a 420 0", "0 put /n 420 FF", "0 put /n 420", "0 make /n 0493", "0 make /n 493 -", "0 remove /a ", "0 remove  /a", "0 move /a /b /c", "0 mode /a 00", "0 mode /a -1", "0 own /a 3 -2", "0 be 3 03", "0 be 3 3 3", "0 set /a u.a 1", "0 drop /a",
	} {
		got := run(t, 300, slices.Concat(ahead, []string{line}, behind)...)[len(ahead):]
		if got[0] != noLine || !slices.Equal(got[1:], want) {
			t.Errorf("behind %q: %q, not %q", line, got, want)
		}
	}
}

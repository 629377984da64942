package console_test

import (
	"encoding/hex"
	"errors"
	"fmt"
	"regexp"
	"slices"
	"strconv"
	"strings"
	"testing"

	"idshift/api"
	"idshift/console"
	"idshift/disk"
	"idshift/host"
)

// second: a second telling of K1 and K2: what a line is an expression says.
type second struct {
	disk *disk.Disk
	host *host.Host
}

// telling of what a line does, handed its words.
type telling func(s *second, w []string) (any, error)

// kinds of words, as expressions.
var kinds = map[string]string{
	"N": `(?:0|[1-9][0-9]{0,4})`, "I": `(?:-1|0|[1-9][0-9]{0,4})`, "W": `[^ ]+`, "X": `(?:-|(?:[0-9a-f][0-9a-f])+)`, "M": `(?:-|N:N:N(?:,N:N:N)*)`, "L": `(?:-|N(?:,N)*)`,
}

// expression of a shape.
func expression(shape string) *regexp.Regexp {
	l := strings.Split(shape, " ")
	for i, kind := range l {
		if e, is := kinds[kind]; is {
			l[i] = strings.ReplaceAll(e, "N", kinds["N"])
		}
	}
	return regexp.MustCompile(`\A` + strings.Join(l, " ") + `\z`)
}

func num(s string) int {
	n, err := strconv.Atoi(s)
	if err != nil {
		panic(err)
	}
	return n
}

func nums(s, mark string) []int {
	if s == "-" {
		return nil
	}
	var l []int
	for _, x := range strings.FieldsFunc(s, func(r rune) bool { return strings.ContainsRune(mark, r) }) {
		l = append(l, num(x))
	}
	return l
}

func idmapOf(s string) []api.Range {
	var m []api.Range
	for r := range slices.Chunk(nums(s, ",:"), 3) {
		m = append(m, api.Range{In: r[0], Out: r[1], Count: r[2]})
	}
	return m
}

func bytesOf(s string) string {
	b, err := hex.DecodeString(strings.TrimPrefix(s, "-"))
	if err != nil {
		panic(err)
	}
	return string(b)
}

// calling: a call of the box that the first word says, and which of what it tells is the answer.
func calling(c func(w []string) api.Call, tell func(t api.Told) any) telling {
	return func(s *second, w []string) (any, error) {
		t, err := s.host.Do(num(w[0]), c(w))
		return tell(t), err
	}
}

func nothing(api.Told) any { return "ok" }

func hexed(t api.Told) any { return fmt.Sprintf("%x", t.Data) }

// seconds: all lines, by their shapes.
var seconds = map[string]telling{
	"box N M M N N N L": func(s *second, w []string) (any, error) {
		return s.host.AddBox(api.Config{Quota: num(w[1]), Maps: api.Maps{Users: idmapOf(w[2]), Groups: idmapOf(w[3])}, Cred: api.Cred{User: num(w[4]), Group: num(w[5]), Caps: num(w[6])}, Lowers: nums(w[7], ",")})
	},
	"unbox N":   func(s *second, w []string) (any, error) { return "ok", s.host.DropBox(num(w[1])) },
	"unlower N": func(s *second, w []string) (any, error) { return "ok", s.host.DropLower(num(w[1])) },
	"seal N":    func(s *second, w []string) (any, error) { return s.host.Seal(num(w[1])) },
	"cut N":     func(s *second, w []string) (any, error) { return "ok", s.disk.Cut(num(w[1])) },
	"left":      func(s *second, w []string) (any, error) { return s.host.Left(), nil },
	"boxes":     func(s *second, w []string) (any, error) { return strings.Trim(fmt.Sprint(s.host.Boxes()), "[]"), nil },
	"lowers":    func(s *second, w []string) (any, error) { return strings.Trim(fmt.Sprint(s.host.Lowers()), "[]"), nil },
	"boot": func(s *second, w []string) (any, error) {
		s.disk.On()
		h, err := host.Open(s.disk)
		if err == nil {
			s.host = h
		}
		return "ok", err
	},
	"N stat W": calling(func(w []string) api.Call { return api.Call{Op: api.CallStat, Path: w[2]} }, func(t api.Told) any {
		return fmt.Sprintf("%d %d %d %d %d", t.Kind, t.Mode, t.User, t.Group, t.Size)
	}),
	"N list W":  calling(func(w []string) api.Call { return api.Call{Op: api.CallList, Path: w[2]} }, func(t api.Told) any { return strings.Join(t.Names, " ") }),
	"N read W":  calling(func(w []string) api.Call { return api.Call{Op: api.CallRead, Path: w[2]} }, hexed),
	"N get W W": calling(func(w []string) api.Call { return api.Call{Op: api.CallGet, Path: w[2], Name: w[3]} }, hexed),
	"N put W N X": calling(func(w []string) api.Call {
		return api.Call{Op: api.CallPut, Path: w[2], A: num(w[3]), Data: bytesOf(w[4])}
	}, nothing),
	"N make W N":  calling(func(w []string) api.Call { return api.Call{Op: api.CallMake, Path: w[2], A: num(w[3])} }, nothing),
	"N remove W":  calling(func(w []string) api.Call { return api.Call{Op: api.CallRemove, Path: w[2]} }, nothing),
	"N move W W":  calling(func(w []string) api.Call { return api.Call{Op: api.CallMove, Path: w[2], Other: w[3]} }, nothing),
	"N mode W N":  calling(func(w []string) api.Call { return api.Call{Op: api.CallMode, Path: w[2], A: num(w[3])} }, nothing),
	"N own W I I": calling(func(w []string) api.Call { return api.Call{Op: api.CallOwn, Path: w[2], A: num(w[3]), B: num(w[4])} }, nothing),
	"N be I I":    calling(func(w []string) api.Call { return api.Call{Op: api.CallBe, A: num(w[2]), B: num(w[3])} }, nothing),
	"N set W W X": calling(func(w []string) api.Call {
		return api.Call{Op: api.CallSet, Path: w[2], Name: w[3], Data: bytesOf(w[4])}
	}, nothing),
	"N drop W W": calling(func(w []string) api.Call { return api.Call{Op: api.CallDrop, Path: w[2], Name: w[3]} }, nothing),
	"N charge":   calling(func(w []string) api.Call { return api.Call{Op: api.CallCharge} }, func(t api.Told) any { return t.Size }),
}

// answer of the second telling.
func (s *second) answer(all map[*regexp.Regexp]telling, line string) string {
	for e, do := range all {
		if len(line) > 400 || !e.MatchString(line) {
			continue
		}
		told, err := do(s, strings.Split(line, " "))
		if n := api.Errno(0); errors.As(err, &n) {
			return fmt.Sprintf("error %d", n)
		}
		if told == "" {
			return "-"
		}
		return fmt.Sprint(told)
	}
	return "error 17"
}

// drawnLine: mostly a line that does something.
func drawnLine(x *die) string {
	p := func() string {
		s := ""
		for range 1 + x.n(3) {
			s += "/" + of(x, "a", "b", "c")
		}
		return of(x, s, s, s, s, "/", "/a", "x", "/-")
	}
	shape := of(x, shapes...)
	if x.n(3) > 0 {
		shape = of(x, "N put W N X", "N make W N", "N put W N X", "N make W N", "N own W I I", "N set W W X", "N list W", "N read W", "N stat W", "N move W W")
	}
	l := strings.Split(shape, " ")
	for i, kind := range l {
		switch kind {
		case "N":
			l[i] = of(x, "0", "0", "1", "1", "2", "3", "4", "8", "15", "420", "511", "1023", "4095", "99999")
			if i == 0 {
				l[i] = of(x, "0", "0", "0", "1", "1", "2", "5")
			}
		case "I":
			l[i] = of(x, "-1", "0", "1", "2", "5", "12", "65536")
		case "W":
			l[i] = p()
			if i == 3 && l[1] != "move" {
				l[i] = of(x, "u.a", "u.b", "t.a", "x.a")
			}
		case "X":
			l[i] = of(x, "-", "00", "616263", "ff2d0a", strings.Repeat("7e", 20), strings.Repeat("7e", 100))
		case "M":
			l[i] = of(x, "0:1000:10", "0:1000:10", "0:2000:16", "0:3000:5,8:500:9", "1:100:3", "-", "0:0:0")
		case "L":
			l[i] = of(x, "-", "0", "0", "1", "1,0", "0,1,2", "9")
		}
	}
	return strings.Join(l, " ")
}

// bent: a line that is a byte, or a word, from one.
func bent(x *die, line string) string {
	piece := of(x, " ", "  ", "0", "1", "-", "-1", ",", ":", "F", "f", "00", "\t", "\n", "\xff", "/", " 0", " -", "0 ", "x", "12345")
	i := x.n(len(line) + 1)
	j := min(len(line), i+x.n(3))
	return line[:i] + of(x, piece, "") + line[j:]
}

// Drawn sessions, power that fails too, are answered as by the second telling.
func TestK1K2SecondTelling(t *testing.T) {
	all := map[*regexp.Regexp]telling{}
	for shape, do := range seconds {
		all[expression(shape)] = do
	}
	if len(all) != len(shapes) {
		t.Fatalf("%d shapes, %d are told", len(shapes), len(all))
	}
	x := die(131)
	heard := map[string]int{}
	for range 800 {
		blocks := of(&x, 200, 220, 250, 300, 300, 300, 2000)
		lines := []string{first, "0 make /a 511", "0 put /a/b 420 00", "seal 0", "box 2 0:2000:10,12:5000:5 0:2000:30 1 1 15 0"}
		for len(lines) < 60 {
			line := drawnLine(&x)
			switch x.n(10) {
			case 0:
				line = bent(&x, line)
			case 1:
				line = of(&x, "boot", "boot", "boot", fmt.Sprint("cut ", x.n(300)), "seal 0", "seal 1")
			}
			lines = append(lines, line)
		}
		d, err := disk.New(blocks)
		if err != nil {
			t.Fatal(err)
		}
		h, err := host.Format(d)
		if err != nil {
			t.Fatal(err)
		}
		s := &second{d, h}
		got, err := console.Run(blocks, lines)
		if err != nil || len(got) != len(lines) {
			t.Fatalf("%q: %q, %v", lines, got, err)
		}
		for i, line := range lines {
			if want := s.answer(all, line); got[i] != want {
				t.Fatalf("%d blocks: %q: the last one => %q, not %q", blocks, lines[:i+1], got[i], want)
			}
			heard[got[i]]++
		}
	}
	// Drawn sessions that hear nothing but errors would tell little.
	for n := 1; n <= 17; n++ {
		if s := fmt.Sprint("error ", n); heard[s] == 0 {
			t.Errorf("%s was never heard", s)
		}
	}
	if heard["ok"] < 3000 || heard[noLine] > 6000 {
		t.Errorf("ok %d times, %s %d times", heard["ok"], noLine, heard[noLine])
	}
}

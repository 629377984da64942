package host

import (
	"slices"
	"strconv"
	"strings"

	"idshift/api"
)

// How a host stands in its own blocks: a sign, which says which of two heads holds; these, a block each; a record of each lower, then of each box. A head tells of each of them with which of its blocks its text begins, and how many bytes that has. A record tells which blocks these are, and of a box the config; it is written while the head that holds doesn't tell of it.
const (
	sign       = "idshift"
	headsAt    = api.Block
	recordsAt  = 3 * api.Block
	recordSize = 19 * api.Block
	wide       = 3 // bytes of a number
)

// signOf a side: its last byte alone is another one than the other side's.
func signOf(side int) string { return sign + strconv.Itoa(side) }

// standing: which head holds, if a host stands there.
func standing(s string) (side int, is bool) {
	for side := range 2 {
		if strings.HasPrefix(s, signOf(side)) {
			return side, true
		}
	}
	return 0, false
}

func headAt(side int) int { return headsAt + side*api.Block }

func lowerRecord(id int) int { return recordsAt + id*recordSize }

func boxRecord(id int) int { return lowerRecord(api.MaxStore + id) }

// head: of each lower, then of each box, with which block its text begins, and how many bytes that has. It is as long whatever there is: so what a box's call writes doesn't hang on others.
func (h *Host) head() string {
	var l numbers
	h.each(func(p place) { l = append(l, p.from, p.size) })
	return l.text()
}

// place of a text: the blocks of what it is of, which of them it begins with, how many bytes it has.
type place struct {
	blocks     []int
	from, size int
}

// half: the middle of the blocks. Each half of a box's has room for its quota, and in one block more for who asks.
func (p place) half() int { return len(p.blocks) / 2 }

// other half, for so many bytes.
func (p place) other(size int) place {
	return place{blocks: p.blocks, from: p.half() - p.from, size: size}
}

// pieces of a text, a block each: at which byte of the disk it begins, and how many bytes it has.
func (p place) pieces(yield func(at, n int) bool) {
	left := p.size
	for _, block := range p.blocks[p.from:] {
		n := min(left, api.Block)
		if n == 0 || !yield(block*api.Block, n) {
			return
		}
		left -= n
	}
}

// numbers, as they stand on the disk.
type numbers []int

// text of numbers, the higher bytes first.
func (l numbers) text() string {
	var b []byte
	for _, x := range l {
		b = append(b, byte(x>>16), byte(x>>8), byte(x))
	}
	return string(b)
}

// readNumbers of a text.
func readNumbers(s string) numbers {
	var l numbers
	for ; len(s) >= wide; s = s[wide:] {
		l = append(l, int(s[0])<<16|int(s[1])<<8|int(s[2]))
	}
	return l
}

// with a list behind: how many, and these.
func (l numbers) with(list []int) numbers { return append(append(l, len(list)), list...) }

// next number is taken; behind the last one all are noughts.
func (l *numbers) next() int {
	if len(*l) == 0 {
		return 0
	}
	x := (*l)[0]
	*l = (*l)[1:]
	return x
}

// list is taken; of one that says to be longer than all that is there: what is there.
func (l *numbers) list() []int {
	n := min(l.next(), len(*l))
	list := slices.Clone((*l)[:n])
	*l = (*l)[n:]
	return list
}

// aboutConfig: all that a config says.
func aboutConfig(c api.Config) numbers {
	l := numbers{c.Quota, c.Cred.User, c.Cred.Group, c.Cred.Caps}
	l = l.with(c.Cred.Groups).with(c.Lowers)
	return l.with(fromRanges(c.Maps.Users)).with(fromRanges(c.Maps.Groups))
}

// config that numbers say.
func (l *numbers) config() api.Config {
	c := api.Config{Quota: l.next()}
	c.Cred = api.Cred{User: l.next(), Group: l.next(), Caps: l.next()}
	c.Cred.Groups, c.Lowers = l.list(), l.list()
	c.Maps.Users, c.Maps.Groups = toRanges(l.list()), toRanges(l.list())
	return c
}

func fromRanges(m []api.Range) []int {
	var l []int
	for _, r := range m {
		l = append(l, r.In, r.Out, r.Count)
	}
	return l
}

func toRanges(l []int) []api.Range {
	var m []api.Range
	for ; len(l) >= 3; l = l[3:] {
		m = append(m, api.Range{In: l[0], Out: l[1], Count: l[2]})
	}
	return m
}

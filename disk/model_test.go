package disk_test

import (
	"strings"
	"testing"

	"idshift/api"
	"idshift/disk"
)

// model: a second telling of D1 and D2, byte by byte: what was written last stands in a list of writes.
type model struct {
	size  int
	wrote []spot
	ends  []int // none: power lasts; else how many bytes were written when it fails
	off   bool
}

// spot of a disk, and what was written there.
type spot struct {
	at int
	b  byte
}

func (m *model) at(i int) byte {
	for k := len(m.wrote) - 1; k >= 0; k-- {
		if m.wrote[k].at == i {
			return m.wrote[k].b
		}
	}
	return 0
}

// fits: what is wrong with n bytes from at on?
func (m *model) fits(at, n int) error {
	switch {
	case m.off:
		return api.ErrOff
	case n < 0 || at < 0 || at+n > m.size:
		return api.ErrBound
	}
	return nil
}

func (m *model) read(at, n int) (string, error) {
	if err := m.fits(at, n); err != nil {
		return "", err
	}
	var s strings.Builder
	for i := range n {
		s.WriteByte(m.at(at + i))
	}
	return s.String(), nil
}

func (m *model) write(at int, s string) error {
	if err := m.fits(at, len(s)); err != nil {
		return err
	}
	for i := range len(s) {
		if len(m.ends) > 0 && len(m.wrote) == m.ends[0] {
			m.off = true
			return api.ErrOff
		}
		m.wrote = append(m.wrote, spot{at + i, s[i]})
	}
	return nil
}

func (m *model) cut(n int) error {
	if m.off {
		return api.ErrOff
	}
	if n < 0 {
		return api.ErrBound
	}
	m.ends = []int{len(m.wrote) + n}
	return nil
}

func (m *model) copy() *model {
	c := *m
	c.wrote = append([]spot(nil), m.wrote...)
	c.ends = append([]int(nil), m.ends...)
	return &c
}

func (m *model) bytes() string {
	all := make([]byte, m.size)
	for _, w := range m.wrote {
		all[w.at] = w.b
	}
	return string(all)
}

// pair of a disk and its second telling.
type pair struct {
	d *disk.Disk
	m *model
}

// call: a drawn call of both; what it was, and are both answered the same?
func (p *pair) call(x *die) (what string, same bool) {
	at, n := x.n(p.m.size+8)-4, x.n(24)-2
	switch x.n(8) {
	case 0, 1, 2:
		s := strings.Repeat(string(rune('a'+x.n(26)))+"-", 12)[:max(n, 0)]
		return "Write", p.d.Write(at, s) == p.m.write(at, s)
	case 3, 4:
		s, err := p.d.Read(at, n)
		want, wanted := p.m.read(at, n)
		return "Read", s == want && err == wanted
	case 5:
		return "Cut", p.d.Cut(n) == p.m.cut(n)
	case 6:
		if x.n(2) == 0 {
			p.d.On()
			p.m.off, p.m.ends = false, nil
		}
		return "On", true
	}
	s, err := p.d.Read(0, p.m.size)
	want, wanted := p.m.read(0, p.m.size)
	return "Read of all", s == want && err == wanted
}

// same: does a disk stand as its second telling?
func (p *pair) same() bool {
	return p.d.Bytes() == p.m.bytes() && p.d.Written() == len(p.m.wrote) && p.d.Power() == !p.m.off && p.d.Blocks()*api.Block == p.m.size
}

// Drawn calls of disks and of their copies: each answers, and stands, as its second telling, whatever the others do.
func TestD1D2Drawn(t *testing.T) {
	x := die(11)
	for round := range 400 {
		blocks := x.n(4)
		all := []pair{{fresh(t, blocks), &model{size: blocks * api.Block}}}
		for step := range 80 {
			k := x.n(len(all))
			if len(all) < 4 && x.n(12) == 0 {
				all = append(all, pair{all[k].d.Copy(), all[k].m.copy()})
			}
			what, same := all[k].call(&x)
			if !same {
				t.Fatalf("round %d, step %d: %s of disk %d is answered otherwise", round, step, what, k)
			}
			for i := range all {
				if !all[i].same() {
					t.Fatalf("round %d, step %d: disk %d stands otherwise behind %s of disk %d", round, step, i, what, k)
				}
			}
		}
	}
}

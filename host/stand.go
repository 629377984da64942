package host

import (
	"idshift/api"
	"idshift/box"
	"idshift/disk"
)

// usable: is there power, and room for what the host has for itself?
func usable(d *disk.Disk) error {
	if !d.Power() {
		return api.ErrOff
	}
	if d.Blocks() < api.Table {
		return api.ErrBound
	}
	return nil
}

// off: there is no power, or it failed in a call: then memory may be behind the disk, and stays so.
func (h *Host) off() bool { return h.failed || !h.disk.Power() }

// lower of a number.
func (h *Host) lower(id int) (*lower, error) { return one(h, h.lowers[:], id) }

// guest: the box of a number.
func (h *Host) guest(id int) (*guest, error) { return one(h, h.boxes[:], id) }

// one of these, if the host has power and there is one.
func one[T any](h *Host, l []*T, id int) (*T, error) {
	if h.off() {
		return nil, api.ErrOff
	}
	if id < 0 || id >= len(l) || l[id] == nil {
		return nil, api.ErrNone
	}
	return l[id], nil
}

// numbersOf those that are there.
func numbersOf[T any](l []*T) []int {
	var there []int
	for id, x := range l {
		if x != nil {
			there = append(there, id)
		}
	}
	return there
}

// stack of lowers by their numbers, which may be many: one more than a box may have is enough for it to be refused.
func (h *Host) stack(l []int) ([]api.Node, error) {
	var trees []api.Node
	for _, id := range l {
		x, err := h.lower(id)
		if err != nil {
			return nil, err
		}
		if len(trees) <= api.MaxLowers {
			trees = append(trees, x.tree)
		}
	}
	return trees, nil
}

// each place, the lowers' ahead; where there is no lower, or no box, it is none.
func (h *Host) each(do func(p place)) {
	for _, l := range h.lowers {
		if l == nil {
			l = &lower{}
		}
		do(l.place)
	}
	for _, g := range h.boxes {
		if g == nil {
			g = &guest{}
		}
		do(g.place)
	}
}

// used: the blocks that lowers and boxes have.
func (h *Host) used() map[int]struct{} {
	used := map[int]struct{}{}
	h.each(func(p place) {
		for _, block := range p.blocks {
			used[block] = struct{}{}
		}
	})
	return used
}

// boxBlocks: how many a box takes: twice its quota and one, so that its text has a place beside the one that holds.
func boxBlocks(quota int) int { return 2 * (quota + 1) }

// reserve so many blocks that nobody has. They need not stand side by side: so nothing is refused while there are enough.
func (h *Host) reserve(n int) ([]int, error) {
	used := h.used()
	var free []int
	for block := api.Table; block < h.disk.Blocks() && len(free) < n; block++ {
		if _, is := used[block]; !is {
			free = append(free, block)
		}
	}
	if len(free) < n {
		return nil, api.ErrNoRoom
	}
	return free, nil
}

// enter what is new: its record and its text stand ahead of the head that tells of them.
func (h *Host) enter(record int, about numbers, p place, s string, next Host) error {
	l := append(numbers{}.with(p.blocks), about...)
	if err := h.write(record, l.text()); err != nil {
		return err
	}
	if err := h.lay(p, s); err != nil {
		return err
	}
	return h.become(next)
}

// keep what a call has made of a box. Its text comes to stand beside the one that holds till then.
func (h *Host) keep(id int, b *box.Box) error {
	g, s := h.boxes[id], b.Bytes()
	if s == g.box.Bytes() {
		return nil
	}
	p := g.place.other(len(s))
	if err := h.lay(p, s); err != nil {
		return err
	}
	next := *h
	next.boxes[id] = &guest{place: p, lowers: g.lowers, box: b}
	return h.become(next)
}

// become another host: behind the last byte of its sign it stands on the disk, ahead of that the one that was.
func (h *Host) become(next Host) error {
	next.side = 1 - h.side
	if err := h.write(headAt(next.side), next.head()); err != nil {
		return err
	}
	if err := h.write(0, signOf(next.side)); err != nil {
		return err
	}
	*h = next
	return nil
}

// lay a text at its place, block by block.
func (h *Host) lay(p place, s string) error {
	for at, n := range p.pieces {
		if err := h.write(at, s[:n]); err != nil {
			return err
		}
		s = s[n:]
	}
	return nil
}

// write bytes that there are: so power fails, if it can't be done.
func (h *Host) write(at int, s string) error {
	if h.disk.Write(at, s) != nil {
		h.failed = true
		return api.ErrOff
	}
	return nil
}

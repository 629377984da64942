package host

import (
	"strings"

	"idshift/api"
	"idshift/box"
	"idshift/disk"
	"idshift/quota"
	"idshift/tree"
)

// Open a disk that was formatted.
func Open(d *disk.Disk) (*Host, error) {
	if err := usable(d); err != nil {
		return nil, err
	}
	s := d.Bytes()
	side, is := standing(s)
	if !is {
		return nil, api.ErrText
	}
	h := &Host{disk: d, side: side}
	if !h.read(s) {
		return nil, api.ErrText
	}
	return h, nil
}

// reader of a disk's bytes; what is left of the head; and a block comes to be used, if it is there and nobody has it yet.
type reader struct {
	bytes string
	head  numbers
	use   func(block int) bool
}

// read all that the head tells of. Of bytes that no host has written it is false, or leads to something that a host can go on from.
func (h *Host) read(s string) bool {
	used := map[int]struct{}{}
	r := reader{bytes: s, head: readNumbers(s[headAt(h.side):][:api.Block]), use: func(block int) bool {
		_, is := used[block]
		used[block] = struct{}{}
		return !is && block >= api.Table && block < len(s)/api.Block
	}}
	for id := range h.lowers {
		if !h.readLower(id, &r) {
			return false
		}
	}
	for id := range h.boxes {
		if !h.readBox(id, &r) {
			return false
		}
	}
	return true
}

// readLower of a number, if the head has it.
func (h *Host) readLower(id int, r *reader) bool {
	p, _, is := r.entry(lowerRecord(id))
	if !is || p.size == 0 {
		return is
	}
	n, err := tree.Parse(r.text(p), false)
	if err != nil || len(p.blocks) != quota.Blocks(n) {
		return false
	}
	h.lowers[id] = &lower{place: p, tree: n}
	return true
}

// readBox of a number, if the head has it.
func (h *Host) readBox(id int, r *reader) bool {
	p, about, is := r.entry(boxRecord(id))
	if !is || p.size == 0 {
		return is
	}
	c := about.config()
	lowers, err := h.stack(c.Lowers)
	if err != nil {
		return false
	}
	b, err := box.Load(c, lowers, r.text(p))
	if err != nil || len(p.blocks) != boxBlocks(c.Quota) || p.from != 0 && p.from != p.half() {
		return false
	}
	h.boxes[id] = &guest{place: p, lowers: c.Lowers, box: b}
	return true
}

// entry of the head: the place that its record has blocks for, and what else that says; false: it can't be so.
func (r *reader) entry(record int) (p place, about numbers, is bool) {
	p = place{from: r.head.next(), size: r.head.next()}
	if p.size == 0 {
		return p, nil, true
	}
	about = readNumbers(r.bytes[record:][:recordSize])
	p.blocks = about.list()
	for _, block := range p.blocks {
		if !r.use(block) {
			return place{}, nil, false
		}
	}
	return p, about, p.from*api.Block+p.size <= len(p.blocks)*api.Block
}

// text that stands at a place.
func (r *reader) text(p place) string {
	var s strings.Builder
	for at, n := range p.pieces {
		s.WriteString(r.bytes[at:][:n])
	}
	return s.String()
}

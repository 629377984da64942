package host_test

import (
	"fmt"
	"math"
	"slices"
	"strings"
	"testing"

	"idshift/api"
	"idshift/disk"
	"idshift/host"
	"idshift/tree"
)

// strays: numbers that nothing has.
var strays = []int{math.MinInt, -5, -1, 5, 6, 100, math.MaxInt}

// blank disk of so many blocks.
func blank(t *testing.T, blocks int) *disk.Disk {
	t.Helper()
	d, err := disk.New(blocks)
	if err != nil {
		t.Fatal(err)
	}
	return d
}

// start a host on a new disk, with so much room.
func start(t *testing.T, room int) (*disk.Disk, *host.Host) {
	t.Helper()
	d := blank(t, api.Table+room)
	h, err := host.Format(d)
	if err != nil || h == nil {
		t.Fatalf("Format: %v, %v", h, err)
	}
	return d, h
}

// open a disk on which a host stands.
func open(t *testing.T, d *disk.Disk) *host.Host {
	t.Helper()
	h, err := host.Open(d)
	if err != nil || h == nil {
		t.Fatalf("Open: %v, %v", h, err)
	}
	return h
}

// peek: the host that is found on a disk, on a copy of it, so that it goes on apart.
func peek(t *testing.T, d *disk.Disk) *host.Host {
	t.Helper()
	return open(t, d.Copy())
}

// darken a disk: power fails, in no call of a host.
func darken(t *testing.T, d *disk.Disk) {
	t.Helper()
	if err := d.Cut(0); err != nil {
		t.Fatal(err)
	}
	if s := d.Bytes(); d.Write(0, s[:1]) != api.ErrOff || d.Power() {
		t.Fatal("power did not fail")
	}
}

// file of a text.
func file(data string) api.Node { return api.Node{Kind: api.File, Mode: 420, Data: data} }

// dir of names, and what they are, one by one.
func dir(l ...any) api.Node {
	n := api.Node{Kind: api.Dir, Mode: 493}
	for i := 0; i < len(l); i += 2 {
		n.Kids = append(n.Kids, api.Kid{Name: l[i].(string), Node: l[i+1].(api.Node)})
	}
	return n
}

// sized: a lower of so many bytes, 10 or from 23 to 5000.
func sized(t *testing.T, bytes int) api.Node {
	t.Helper()
	n := dir()
	for i := 0; tree.Size(n) < bytes; i++ {
		// What is left behind this one is none, or enough for another one.
		data := min(bytes-tree.Size(n)-13, api.MaxData)
		if left := bytes - tree.Size(n) - 13 - data; left > 0 && left < 13 {
			data -= 13
		}
		n.Kids = append(n.Kids, api.Kid{Name: fmt.Sprintf("%02d", i), Node: file(strings.Repeat("s", data))})
	}
	if tree.Size(n) != bytes {
		t.Fatalf("a tree of %d bytes, not of %d", tree.Size(n), bytes)
	}
	return n
}

// whole: a lower of just so many blocks.
func whole(t *testing.T, blocks int) api.Node {
	t.Helper()
	return sized(t, blocks*api.Block)
}

// config of one who can do all; users from 0 to 9, groups from 0 to 7 are what maps have.
func config(quota int, lowers ...int) api.Config {
	return api.Config{
		Maps:   api.Maps{Users: []api.Range{{In: 0, Out: 1000, Count: 10}}, Groups: []api.Range{{In: 0, Out: 2000, Count: 8}}},
		Cred:   api.Cred{Caps: api.AllCaps},
		Quota:  quota,
		Lowers: lowers,
	}
}

// addLower that is added at a number.
func addLower(t *testing.T, h *host.Host, n api.Node, want int) {
	t.Helper()
	if id, err := h.AddLower(n); err != nil || id != want {
		t.Fatalf("AddLower: %d, %v, not %d", id, err, want)
	}
}

// addBox that is added at a number.
func addBox(t *testing.T, h *host.Host, c api.Config, want int) {
	t.Helper()
	if id, err := h.AddBox(c); err != nil || id != want {
		t.Fatalf("AddBox(%v): %d, %v, not %d", c, id, err, want)
	}
}

// seal a box; it becomes a lower of a number.
func seal(t *testing.T, h *host.Host, box, want int) {
	t.Helper()
	if id, err := h.Seal(box); err != nil || id != want {
		t.Fatalf("Seal(%d): %d, %v, not %d", box, id, err, want)
	}
}

// done: something that must be.
func done(t *testing.T, err error) {
	t.Helper()
	if err != nil {
		t.Fatal(err)
	}
}

// put a file into a box.
func put(t *testing.T, h *host.Host, id int, path, data string) {
	t.Helper()
	if _, err := h.Do(id, putting(path, data)); err != nil {
		t.Fatalf("box %d: put %s: %v", id, path, err)
	}
}

func putting(path, data string) api.Call {
	return api.Call{Op: api.CallPut, Path: path, A: 420, Data: data}
}

// read a file of a box.
func read(t *testing.T, h *host.Host, id int, path string) string {
	t.Helper()
	told, err := h.Do(id, api.Call{Op: api.CallRead, Path: path})
	if err != nil {
		t.Fatalf("box %d: read %s: %v", id, path, err)
	}
	return told.Data
}

// stands: which lowers, which boxes are there, and how much is left?
func stands(t *testing.T, what string, h *host.Host, lowers, boxes []int, left int) {
	t.Helper()
	if !slices.Equal(h.Lowers(), lowers) || !slices.Equal(h.Boxes(), boxes) || h.Left() != left {
		t.Errorf("%s: lowers %v, boxes %v, %d left, not %v, %v, %d", what, h.Lowers(), h.Boxes(), h.Left(), lowers, boxes, left)
	}
}

// seen: all that a host tells of what is there.
func seen(h *host.Host) string {
	s := fmt.Sprintln(h.Lowers(), h.Boxes(), h.Left())
	for id := range api.MaxStore {
		n, err := h.Lower(id)
		s += fmt.Sprintln("lower", id, n, err)
	}
	for id := range api.MaxBoxes {
		upper, err := h.Upper(id)
		flat, err1 := h.Flat(id)
		who, err2 := h.Cred(id)
		s += fmt.Sprintln("box", id, upper, err, flat, err1, who, err2)
	}
	return s
}

// shown: what is seen of a disk's host, and what is to be found out of configs: which ids maps have, how much goes into a quota, which lowers are held. The disk stays as it is.
func shown(t *testing.T, d *disk.Disk) string {
	t.Helper()
	h := peek(t, d)
	s := seen(h)
	for _, id := range h.Boxes() {
		for _, x := range []int{0, 2, 3, 7, 8, 9, 10, 20, 22} {
			_, err := h.Do(id, api.Call{Op: api.CallOwn, Path: "/", A: x, B: -1})
			_, err1 := h.Do(id, api.Call{Op: api.CallOwn, Path: "/", A: -1, B: x})
			s += fmt.Sprintln("box", id, "own", x, err, err1)
		}
		for i := 0; ; i++ {
			if _, err := h.Do(id, putting(fmt.Sprint("/fill", i), strings.Repeat("f", 180))); err != nil {
				s += fmt.Sprintln("box", id, "fill", i, err)
				break
			}
		}
	}
	for _, id := range h.Lowers() {
		s += fmt.Sprintln("lower", id, "drop", h.DropLower(id))
	}
	return s
}

// answers of the calls that want power: what each of them is answered, by a box or a lower of a number.
func answers(h *host.Host, id int) map[string]error {
	all := map[string]error{}
	_, all["AddLower"] = h.AddLower(dir())
	_, all["Seal"] = h.Seal(id)
	all["DropLower"] = h.DropLower(id)
	_, all["AddBox"] = h.AddBox(config(1))
	all["DropBox"] = h.DropBox(id)
	_, all["Do"] = h.Do(id, api.Call{Op: api.CallStat, Path: "/"})
	_, all["Flat"] = h.Flat(id)
	_, all["Upper"] = h.Upper(id)
	_, all["Cred"] = h.Cred(id)
	_, all["Lower"] = h.Lower(id)
	return all
}

// silent: every call is answered ErrOff; what wants no power is told all the same.
func silent(t *testing.T, what string, h *host.Host, lowers, boxes []int, left int) {
	t.Helper()
	for _, id := range []int{-1, 0, 1, 4, 5} {
		for call, err := range answers(h, id) {
			if err != api.ErrOff {
				t.Errorf("%s: %s of %d: %v", what, call, id, err)
			}
		}
	}
	stands(t, what, h, lowers, boxes, left)
}

// die: numbers that look drawn, the same each time.
type die uint64

func (d *die) n(most int) int {
	*d = *d*6364136223846793005 + 1442695040888963407
	return int(uint64(*d>>33) % uint64(most))
}

// of these, one.
func of[T any](d *die, l ...T) T { return l[d.n(len(l))] }

package host_test

import (
	"math"
	"slices"
	"testing"

	"idshift/api"
	"idshift/disk"
	"idshift/host"
)

// looked: so many bytes of a disk, the host's own blocks and the first ones behind them, are made others.
const looked = (api.Table + 30) * api.Block

// ends: a disk on which anything may stand is opened, or it isn't a host's; if it is one's, all its calls end.
func ends(t *testing.T, what string, d *disk.Disk) (h *host.Host, is bool) {
	t.Helper()
	var err error
	unchanged(t, what, d, func() { h, err = host.Open(d) })
	if err != nil {
		nothing(t, what, h, err, api.ErrText)
		return nil, false
	}
	for _, id := range h.Boxes() {
		_, _ = h.Do(id, putting("/goes", "on"))
		_, _ = h.Do(id, api.Call{Op: api.CallRemove, Path: "/a"})
		_, _ = h.Seal(id)
	}
	for id := range api.MaxBoxes {
		_ = answers(h, id)
	}
	_ = seen(h)
	return h, true
}

// with bytes at a place of a copy.
func with(t *testing.T, d *disk.Disk, at int, s string) *disk.Disk {
	t.Helper()
	d = d.Copy()
	done(t, d.Write(at, s))
	return d
}

// Each byte that a host has written is another one: Open ends, and so does all that comes of it.
func TestZ1EachByte(t *testing.T) {
	d := peopled(t, 1)
	s := d.Bytes()
	for at := range looked {
		if s[at] == 0 && at%api.Block > 0 {
			continue
		}
		for _, b := range []byte{0, 1, 0xff, s[at] + 1, s[at] - 1, s[at] ^ 8} {
			ends(t, "a byte", with(t, d, at, string([]byte{b})))
		}
	}
}

// Bytes that are drawn, here and there, and long runs of one byte.
func TestZ1AnyDisk(t *testing.T) {
	x := die(129)
	for calls := range 2 {
		d := peopled(t, calls)
		for range 1500 {
			c := d
			for range 1 + x.n(6) {
				b := make([]byte, 1+x.n(of(&x, 3, 8, 70)))
				one := byte(x.n(256))
				for i := range b {
					if b[i] = one; x.n(2) == 0 {
						b[i] = byte(x.n(256))
					}
				}
				c = with(t, c, 8+x.n(of(&x, 200, 3000, looked-80)), string(b))
			}
			ends(t, "drawn bytes", c)
		}
	}
	for _, b := range []byte{0, 1, '0', '1', 0xff} {
		for _, sign := range []string{"", "idshift0", "idshift1"} {
			d := blank(t, 300)
			done(t, d.Write(0, string(slices.Repeat([]byte{b}, 300*api.Block))))
			ends(t, "one byte", with(t, d, 0, sign))
		}
	}
}

// What stood on a disk stands on a shorter one, as far as there is room, and on a longer one.
func TestZ1ShorterDisk(t *testing.T) {
	s := peopled(t, 0).Bytes()
	for blocks := 200; blocks <= 270; blocks++ {
		d := blank(t, blocks)
		done(t, d.Write(0, s[:blocks*api.Block]))
		ends(t, "a shorter disk", d)
	}
	longer := blank(t, 1000)
	done(t, longer.Write(0, s))
	ends(t, "a longer disk", longer)
}

// Numbers, trees and configs as they may come.
func TestZ1AnyArguments(t *testing.T) {
	_, h := start(t, 100)
	addLower(t, h, dir(), 0)
	addBox(t, h, config(2, 0), 0)
	for _, id := range strays {
		for call, err := range answers(h, id) {
			if err != api.ErrNone && call != "AddLower" && call != "AddBox" {
				t.Errorf("%s of %d: %v", call, id, err)
			}
		}
	}
	deep := api.Node{Kind: api.Dir}
	for range 100000 {
		deep = api.Node{Kind: api.Dir, Kids: []api.Kid{{Name: "a", Node: deep}}}
	}
	_, h = start(t, 100)
	addLower(t, h, dir(), 0)
	refusedLower(t, "deep", h, deep, api.ErrMany)
	refusedLower(t, "many", h, api.Node{Kind: api.Dir, Kids: make([]api.Kid, 1000000)}, api.ErrName)
	refusedLower(t, "numbers", h, api.Node{Kind: api.Dir, Mode: math.MinInt, User: math.MaxInt}, api.ErrBound)
	refusedBox(t, "nothing", h, api.Config{}, api.ErrBound)
	refusedBox(t, "quota", h, config(math.MaxInt), api.ErrBound)
	refusedBox(t, "quota", h, config(math.MaxInt/2), api.ErrBound)
	refusedBox(t, "many lowers", h, config(1, make([]int, 1000000)...), api.ErrMany)
	refusedBox(t, "many lowers, the last is none", h, config(1, append(make([]int, 1000000), 1)...), api.ErrNone)
	addBox(t, h, config(2), 0)
	for _, c := range []api.Call{{}, {Op: math.MinInt}, {Op: math.MaxInt}, {Op: api.CallOwn, Path: "/", A: math.MinInt, B: math.MaxInt}, {Op: api.CallPut, Path: "/\x00", A: -1}} {
		if told, err := h.Do(0, c); err == nil || !sameTold(told, api.Told{}) {
			t.Errorf("%+v: %v, %v", c, told, err)
		}
	}
}

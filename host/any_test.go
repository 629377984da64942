package host_test

import (
	"math"
	"slices"
	"strings"
	"testing"

	"idshift/api"
	"idshift/disk"
	"idshift/host"
	"idshift/tree"
)

// used: how many bytes of a host's own blocks, and of the first ones behind them, are looked at.
const used = (api.Table + 30) * api.Block

// goesOn: a disk on which anything may stand is opened, or it isn't a host's; if it is one's, all its calls end, and what they leave is one's too.
func goesOn(t *testing.T, what string, d *disk.Disk) bool {
	t.Helper()
	var h *host.Host
	var err error
	unchanged(t, what, d, func() { h, err = host.Open(d) })
	if err != nil {
		nothing(t, what, h, err, api.ErrText)
		return false
	}
	if h.Left() < 0 || h.Left() > d.Blocks()-api.Table {
		t.Errorf("%s: %d left", what, h.Left())
	}
	for _, id := range h.Lowers() {
		if n, err := h.Lower(id); err != nil || tree.Check(n, false) != nil {
			t.Errorf("%s: lower %d: %v, %v", what, id, n, err)
		}
	}
	for _, id := range h.Boxes() {
		_, _ = h.Do(id, putting("/goes", "on"))
		_, _ = h.Do(id, api.Call{Op: api.CallRemove, Path: "/a"})
		_, _ = h.Seal(id)
	}
	for id := range api.MaxBoxes {
		_ = answers(h, id)
	}
	before := seen(h)
	if got := seen(open(t, d)); got != before {
		t.Errorf("%s: %s, not %s", what, got, before)
	}
	return true
}

// with bytes at a place of a copy.
func with(t *testing.T, d *disk.Disk, at int, s string) *disk.Disk {
	t.Helper()
	d = d.Copy()
	done(t, d.Write(at, s))
	return d
}

// Each byte that a host has written is another one: Open ends, and so does all that comes of it.
func TestZ1EachByte(t *testing.T) {
	d := peopled(t, 1)
	s := d.Bytes()
	hosts := 0
	for at := range used {
		if s[at] == 0 && at%api.Block > 0 {
			continue
		}
		for _, b := range []byte{0, 1, 0xff, s[at] + 1, s[at] - 1, s[at] ^ 8} {
			if b != s[at] && goesOn(t, "a byte", with(t, d, at, string([]byte{b}))) {
				hosts++
			}
		}
	}
	if hosts == 0 {
		t.Error("none was a host's")
	}
}

// How a host stands on its disk: the head that holds, in numbers of three bytes, has two of each lower and of each box; records have blocks, and of boxes the config.
const (
	headAt     = api.Block
	recordsAt  = 3 * api.Block
	recordSize = 19 * api.Block
)

func number(x int) string { return string([]byte{byte(x >> 16), byte(x >> 8), byte(x)}) }

func numberAt(s string, at int) int { return int(s[at])<<16 | int(s[at+1])<<8 | int(s[at+2]) }

// Each number that a host has written is another one.
func TestZ1EachNumber(t *testing.T) {
	d := peopled(t, 1)
	s := d.Bytes()
	begin := []int{headAt, headAt + api.Block}
	for i := range api.MaxStore + api.MaxBoxes {
		begin = append(begin, recordsAt+i*recordSize)
	}
	for i, from := range begin {
		end := append(begin, api.Table*api.Block)[i+1]
		for at := from; at+3 <= end; at += 3 {
			if numberAt(s, at) == 0 {
				continue
			}
			for _, x := range []int{0, 1, 3, 60, 100, 199, 201, 240, 269, 270, 1 << 16, 1<<24 - 1} {
				goesOn(t, "a number", with(t, d, at, number(x)))
			}
		}
	}
}

// single: a disk with a lower, of block 200, and a box of quota 1, of those from 201 to 204; the box's bytes, which begin with the first block, or with the third one; and where the head that holds tells of it.
func single(t *testing.T, from int) (d *disk.Disk, text string, at int) {
	t.Helper()
	d, h := start(t, 30)
	addLower(t, h, dir(), 0)
	addBox(t, h, config(1), 0)
	for i := range 2 - from/2 {
		put(t, h, 0, "/a", strings.Repeat("x", i+1))
	}
	s := d.Bytes()
	at = headAt + int(s[7]-'0')*api.Block + 2*3*api.MaxStore
	size := numberAt(s, at+3)
	if numberAt(s, at) != from || size != 6+10+2+10+2-from/2 {
		t.Fatalf("from block %d, %d bytes", numberAt(s, at), size)
	}
	return d, s[(201+from)*api.Block:][:size], at
}

// A box's bytes begin where no host would lay them: that is no host's disk.
func TestZ1MovedText(t *testing.T) {
	for _, right := range []int{0, 2} {
		d, text, at := single(t, right)
		for from := range 6 {
			c := with(t, with(t, d, at, number(from)), (201+from)*api.Block, text)
			if is := goesOn(t, "moved", c); is != (from == 0 || from == 2) {
				t.Errorf("from block %d: %v", from, is)
			}
		}
	}
}

// A lower or a box has fewer blocks than it takes, or more, or some twice, or one of the host's own, or one that there is not.
func TestZ1OtherBlocks(t *testing.T) {
	for _, right := range []int{0, 2} {
		d, _, _ := single(t, right)
		for _, l := range [][]int{{}, {199}, {230}, {201}, {200, 205}, {205, 206}} {
			otherBlocks(t, d, recordsAt, []int{200}, l)
		}
		for _, l := range [][]int{
			{201}, {201, 202}, {201, 202, 203}, {201, 202, 203, 204, 205}, {201, 202, 203, 204, 205, 206}, {201, 202, 203, 201}, {201, 201, 203, 203}, {201, 202, 203, 200}, {201, 200, 203, 204},
			{201, 202, 203, 5}, {201, 5, 203, 204}, {201, 202, 203, 199}, {201, 199, 203, 204}, {201, 202, 203, 230}, {201, 230, 203, 204},
		} {
			otherBlocks(t, d, recordsAt+api.MaxStore*recordSize, []int{201, 202, 203, 204}, l)
		}
	}
}

// otherBlocks in a record, in which those that are right stand: with the others the disk is no host's any more.
func otherBlocks(t *testing.T, d *disk.Disk, record int, right, other []int) {
	t.Helper()
	begin := func(l []int) string {
		s := number(len(l))
		for _, block := range l {
			s += number(block)
		}
		return s
	}
	s := d.Bytes()[record:][:recordSize]
	about, is := strings.CutPrefix(s, begin(right))
	if !is || !goesOn(t, "as it is", d.Copy()) {
		t.Fatalf("a record of other blocks than %v", right)
	}
	if goesOn(t, "other blocks", with(t, d, record, begin(other)+about[:recordSize/2])) {
		t.Errorf("a host's disk, with blocks %v", other)
	}
}

// Bytes that are drawn, here and there, and long runs of one byte.
func TestZ1AnyDisk(t *testing.T) {
	x := die(129)
	for calls := range 2 {
		d := peopled(t, calls)
		for range 1500 {
			c := d
			for range 1 + x.n(6) {
				b := make([]byte, 1+x.n(of(&x, 3, 8, 70)))
				one := byte(x.n(256))
				for i := range b {
					if b[i] = one; x.n(2) == 0 {
						b[i] = byte(x.n(256))
					}
				}
				c = with(t, c, 8+x.n(of(&x, 200, 3000, used-80)), string(b))
			}
			goesOn(t, "drawn bytes", c)
		}
	}
	for _, b := range []byte{0, 1, '0', '1', 0xff} {
		for _, sign := range []string{"", "idshift0", "idshift1"} {
			d := blank(t, 300)
			done(t, d.Write(0, string(slices.Repeat([]byte{b}, 300*api.Block))))
			goesOn(t, "one byte", with(t, d, 0, sign))
		}
	}
}

// A disk is as long as it is: what stood on a longer one may not be there.
func TestZ1ShorterDisk(t *testing.T) {
	s := peopled(t, 0).Bytes()
	for blocks := 200; blocks <= 270; blocks++ {
		d := blank(t, blocks)
		done(t, d.Write(0, s[:blocks*api.Block]))
		goesOn(t, "a shorter disk", d)
	}
	longer := blank(t, 1000)
	done(t, longer.Write(0, s))
	if !goesOn(t, "a longer disk", longer) {
		t.Error("a longer disk is no host's")
	}
}

// Numbers, trees and configs as they may come.
func TestZ1AnyArguments(t *testing.T) {
	_, h := start(t, 100)
	addLower(t, h, dir(), 0)
	addBox(t, h, config(2, 0), 0)
	for _, id := range strays {
		for call, err := range answers(h, id) {
			if err != api.ErrNone && call != "AddLower" && call != "AddBox" {
				t.Errorf("%s of %d: %v", call, id, err)
			}
		}
	}
	deep := api.Node{Kind: api.Dir}
	for range 100000 {
		deep = api.Node{Kind: api.Dir, Kids: []api.Kid{{Name: "a", Node: deep}}}
	}
	_, h = start(t, 100)
	addLower(t, h, dir(), 0)
	refusedLower(t, "deep", h, deep, api.ErrMany)
	refusedLower(t, "many", h, api.Node{Kind: api.Dir, Kids: make([]api.Kid, 1000000)}, api.ErrName)
	refusedLower(t, "numbers", h, api.Node{Kind: api.Dir, Mode: math.MinInt, User: math.MaxInt}, api.ErrBound)
	refusedBox(t, "nothing", h, api.Config{}, api.ErrBound)
	refusedBox(t, "quota", h, config(math.MaxInt), api.ErrBound)
	refusedBox(t, "quota", h, config(math.MaxInt/2), api.ErrBound)
	refusedBox(t, "many lowers", h, config(1, make([]int, 1000000)...), api.ErrMany)
	refusedBox(t, "many lowers, the last is none", h, config(1, append(make([]int, 1000000), 1)...), api.ErrNone)
	addBox(t, h, config(2), 0)
	for _, c := range []api.Call{{}, {Op: math.MinInt}, {Op: math.MaxInt}, {Op: api.CallOwn, Path: "/", A: math.MinInt, B: math.MaxInt}, {Op: api.CallPut, Path: "/\x00", A: -1}} {
		if told, err := h.Do(0, c); err == nil || !sameTold(told, api.Told{}) {
			t.Errorf("%+v: %v, %v", c, told, err)
		}
	}
}

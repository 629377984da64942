package host_test

import (
	"strings"
	"testing"

	"idshift/api"
	"idshift/disk"
	"idshift/tree"
)

// How a host stands on its disk is free. The tests of this file know how it is now: the head that holds, in numbers of three bytes, has two of each lower and of each box; records have blocks, and of boxes the config.
const (
	headAt     = api.Block
	recordsAt  = 3 * api.Block
	recordSize = 19 * api.Block
)

func number(x int) string { return string([]byte{byte(x >> 16), byte(x >> 8), byte(x)}) }

func numberAt(s string, at int) int { return int(s[at])<<16 | int(s[at+1])<<8 | int(s[at+2]) }

// known: do hosts stand on their disks as these tests know it?
func known(t *testing.T) {
	t.Helper()
	if d, _ := start(t, 0); !strings.HasPrefix(d.Bytes(), "idshift") {
		t.Skip("hosts stand on their disks otherwise")
	}
}

// goesOn: a disk on which a host finds something, though no host may have left it so, is one's behind all calls too; nothing that stands there is lost.
func goesOn(t *testing.T, what string, d *disk.Disk) bool {
	t.Helper()
	h, is := ends(t, what, d)
	if !is {
		return false
	}
	for _, id := range h.Lowers() {
		if n, err := h.Lower(id); err != nil || tree.Check(n, false) != nil {
			t.Errorf("%s: lower %d: %v, %v", what, id, n, err)
		}
	}
	if got, want := seen(peek(t, d)), seen(h); got != want || h.Left() < 0 {
		t.Errorf("%s: %s, not %s", what, got, want)
	}
	return true
}

// Each number that a host has written is another one.
func TestZ1EachNumber(t *testing.T) {
	known(t)
	d := peopled(t, 1)
	s := d.Bytes()
	begin := []int{headAt, headAt + api.Block}
	for i := range api.MaxStore + api.MaxBoxes {
		begin = append(begin, recordsAt+i*recordSize)
	}
	for i, from := range begin {
		end := append(begin, api.Table*api.Block)[i+1]
		for at := from; at+3 <= end; at += 3 {
			if numberAt(s, at) == 0 {
				continue
			}
			for _, x := range []int{0, 1, 3, 60, 100, 199, 201, 240, 269, 270, 1 << 16, 1<<24 - 1} {
				goesOn(t, "a number", with(t, d, at, number(x)))
			}
		}
	}
}

// single: a disk with a lower, of block 200, and a box of quota 1, of those from 201 to 204; the box's bytes, which begin with the first block, or with the third one; and where the head that holds tells of it.
func single(t *testing.T, from int) (d *disk.Disk, text string, at int) {
	t.Helper()
	d, h := start(t, 30)
	addLower(t, h, dir(), 0)
	addBox(t, h, config(1), 0)
	for i := range 2 - from/2 {
		put(t, h, 0, "/a", strings.Repeat("x", i+1))
	}
	s := d.Bytes()
	at = headAt + int(s[7]-'0')*api.Block + 2*3*api.MaxStore
	size := numberAt(s, at+3)
	if numberAt(s, at) != from || size != 6+10+2+10+2-from/2 {
		t.Fatalf("from block %d, %d bytes", numberAt(s, at), size)
	}
	return d, s[(201+from)*api.Block:][:size], at
}

// A box's bytes begin where no host would lay them: that is no host's disk.
func TestZ1MovedText(t *testing.T) {
	known(t)
	for _, right := range []int{0, 2} {
		d, text, at := single(t, right)
		for from := range 6 {
			c := with(t, with(t, d, at, number(from)), (201+from)*api.Block, text)
			if is := goesOn(t, "moved", c); is != (from == 0 || from == 2) {
				t.Errorf("from block %d: %v", from, is)
			}
		}
	}
}

// A lower or a box has fewer blocks than it takes, or more, or some twice, or one of the host's own, or one that there is not.
func TestZ1OtherBlocks(t *testing.T) {
	known(t)
	for _, right := range []int{0, 2} {
		d, _, _ := single(t, right)
		for _, l := range [][]int{{}, {199}, {230}, {201}, {200, 205}, {205, 206}} {
			otherBlocks(t, d, recordsAt, []int{200}, l)
		}
		for _, l := range [][]int{
			{201}, {201, 202}, {201, 202, 203}, {201, 202, 203, 204, 205}, {201, 202, 203, 204, 205, 206}, {201, 202, 203, 201}, {201, 201, 203, 203}, {201, 202, 203, 200}, {201, 200, 203, 204},
			{201, 202, 203, 5}, {201, 5, 203, 204}, {201, 202, 203, 199}, {201, 199, 203, 204}, {201, 202, 203, 230}, {201, 230, 203, 204},
		} {
			otherBlocks(t, d, recordsAt+api.MaxStore*recordSize, []int{201, 202, 203, 204}, l)
		}
	}
}

// otherBlocks in a record, in which those that are right stand: with the others the disk is no host's any more.
func otherBlocks(t *testing.T, d *disk.Disk, record int, right, other []int) {
	t.Helper()
	begin := func(l []int) string {
		s := number(len(l))
		for _, block := range l {
			s += number(block)
		}
		return s
	}
	s := d.Bytes()[record:][:recordSize]
	about, is := strings.CutPrefix(s, begin(right))
	if !is || !goesOn(t, "as it is", d.Copy()) {
		t.Fatalf("a record of other blocks than %v", right)
	}
	if goesOn(t, "other blocks", with(t, d, record, begin(other)+about[:recordSize/2])) {
		t.Errorf("a host's disk, with blocks %v", other)
	}
}

// A lower's bytes are an upper's, which no lower may be.
func TestZ1NoLower(t *testing.T) {
	known(t)
	d, h := start(t, 30)
	addLower(t, h, dir("v", dir()), 0)
	at := api.Table*api.Block + 10 + 2
	if d.Bytes()[at] != api.Dir {
		t.Fatalf("%q", d.Bytes()[at:][:10])
	}
	for b := range 256 {
		if is := goesOn(t, "another kind", with(t, d, at, string([]byte{byte(b)}))); is != (b == api.Dir || b == api.File) {
			t.Errorf("kind %d: %v", b, is)
		}
	}
}

// W1, to the byte: power that fails behind so many bytes fails in the same call of a box, whatever other boxes have done; and a call that asks alone writes none.
func TestW1Bytes(t *testing.T) {
	known(t)
	x := die(130)
	quiet := shared(t)
	loud := quiet.Copy()
	g, h := open(t, quiet), open(t, loud)
	for range 600 {
		h = noisy(t, &x, loud, h)
		c := drawnCall(&x)
		a, b := quiet.Written(), loud.Written()
		before := seenBox(g, 1)
		_, err := g.Do(1, c)
		_, _ = h.Do(1, c)
		if one, other := quiet.Written()-a, loud.Written()-b; one != other || (one > 0) != (seenBox(g, 1) != before) {
			t.Fatalf("%+v: %v: %d bytes, and beside others that go on %d", c, err, one, other)
		}
	}
}

// A host of whose sign something is lost is none; a Format in which power fails doesn't bring it back.
func TestH4FormatOfLost(t *testing.T) {
	known(t)
	x := die(131)
	for calls := range 2 {
		for _, s := range []string{"X", "idshifX", "idshift\x00"} {
			d := with(t, peopled(t, calls), 0, s)
			if ahead := found(t, d); ahead != "none" {
				t.Fatal(ahead)
			}
			formatsAnew(t, &x, d)
		}
	}
}

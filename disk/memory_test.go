package disk_test

import (
	"testing"
	"unsafe"

	"idshift/api"
)

// A text that is handed in is not kept: its memory may be altered behind the call.
func TestZ2TextHandedIn(t *testing.T) {
	for _, n := range []int{1, 2, 63, 64, 65, 128, 192} {
		d := fresh(t, 3)
		memory := make([]byte, 200)
		for i := range memory {
			memory[i] = byte('a' + i%26)
		}
		want := string(memory[:n])
		write(t, d, 0, unsafe.String(&memory[0], n))
		c := d.Copy()
		clear(memory)
		stands(t, "what was written", d, want, n, true)
		stands(t, "its copy", c, want, n, true)
	}
}

// Neither is a text written into, nor what stands behind it read; not where power fails, and not where bytes are not there.
func TestZ2TextIsLeftAsItIs(t *testing.T) {
	memory := []byte("a text, and what is behind it")
	text := unsafe.String(&memory[0], 6)
	d := fresh(t, 1)
	write(t, d, 0, "XXXXXXXXXX")
	write(t, d, 0, text)
	stands(t, "the text alone", d, "a textXXXX", 16, true)
	if err := d.Write(60, text); err != api.ErrBound {
		t.Errorf("beyond the end: %v", err)
	}
	cut(t, d, 3)
	if err := d.Write(10, text); err != api.ErrOff {
		t.Errorf("power fails: %v", err)
	}
	stands(t, "what was done of it", d, "a textXXXXa t", 19, false)
	d.On()
	write(t, d, 0, "YYYYYYYYYYYYYYYYYY")
	if string(memory) != "a text, and what is behind it" {
		t.Errorf("the text is %q now", memory)
	}
}

// What comes out stays as it was told when the disk goes on.
func TestZ2TextHandedOut(t *testing.T) {
	d := fresh(t, 2)
	write(t, d, 0, "first")
	some, _ := d.Read(0, 5)
	one, _ := d.Read(1, 1)
	whole, _ := d.Read(0, 128)
	all := d.Bytes()
	write(t, d, 0, "other")
	if some != "first" || one != "i" || whole[:5] != "first" || all[:5] != "first" {
		t.Errorf("what was told has become %q, %q, %q, %q", some, one, whole[:5], all[:5])
	}
}

// Texts that come out share no memory with the disk, nor with each other: one that is spoilt spoils no other.
func TestZ2TextsAreFresh(t *testing.T) {
	d := fresh(t, 2)
	write(t, d, 0, "kept")
	tell := func() []string {
		a, _ := d.Read(0, 4)
		b, _ := d.Read(0, 128)
		return []string{a, b, d.Bytes(), d.Copy().Bytes()}
	}
	told := append(tell(), tell()...)
	for i, s := range told {
		// Such memory is never a constant's: what was told was made by the call.
		clear(unsafe.Slice(unsafe.StringData(s), len(s)))
		for _, other := range told[i+1:] {
			if other[:4] != "kept" {
				t.Errorf("text %d shares memory with another", i)
			}
		}
		stands(t, "behind a text that was spoilt", d, "kept", 4, true)
	}
}

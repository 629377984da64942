package box_test

import (
	"encoding/hex"
	"slices"
	"strings"
	"testing"

	"idshift/api"
	"idshift/box"
	"idshift/tree"
)

// text of numbers to the base 16, blanks between.
func text(s string) string {
	b, err := hex.DecodeString(strings.ReplaceAll(s, " ", ""))
	if err != nil {
		panic(err)
	}
	return string(b)
}

// load a text; it must be a box's, which has these Bytes again.
func load(t *testing.T, c api.Config, lowers, s string) scene {
	t.Helper()
	b, err := box.Load(c, trees(lowers), s)
	if err != nil {
		t.Fatalf("Load(%v, %s, %x): %v", c, lowers, s, err)
	}
	if b.Bytes() != s {
		t.Errorf("Load(%v, %s, %x): %x", c, lowers, s, b.Bytes())
	}
	return scene{b, trees(lowers)}
}

func refused(t *testing.T, what string, c api.Config, s string) {
	t.Helper()
	if b, err := box.Load(c, nil, s); err != api.ErrText || b != nil {
		t.Errorf("%s: Load(%x): %v, %v", what, s, b, err)
	}
}

func TestB2Bytes(t *testing.T) {
	for _, x := range []struct {
		who  api.Cred
		want string
	}{
		{admin(), "0000 0000 0f 00" + "02 01ed 03e8 07d0 00 00 00"},
		{who(9, 7, 5, 3), "0009 0007 05 01 0003" + "02 01ed 03f1 07d7 00 00 00"},
		{who(14, 0, 8, 0, 258, 4096, 65535), "000e 0000 08 04 0000 0102 1000 ffff" + "02 01ed 138c 07d0 00 00 00"},
	} {
		b := start(t, x.who, 1, "d(a=f)")
		if b.Bytes() != text(x.want) {
			t.Errorf("%v: %x, not %s", x.who, b.Bytes(), x.want)
		}
	}
	b := start(t, who(1, 2, 0), 9, "d777(a=f:3.3 b=f:1.2'x)")
	play(t, b, "put /b 600 yz => ok")
	if want := text("0001 0002 00 00" + "02 01ed 03e9 07d2 00 00 01" + "01 62" + "01 01a4 03e9 07d2 00 02 79 7a 00"); b.Bytes() != want {
		t.Errorf("%x, not %x", b.Bytes(), want)
	}
	c := who(258, 513, 15)
	wide := api.Config{Maps: api.Maps{Users: []api.Range{{In: 258, Out: 772, Count: 1}}, Groups: []api.Range{{In: 513, Out: 1286, Count: 1}}}, Cred: c, Quota: 1}
	w, err := box.New(wide, nil)
	if err != nil || w.Bytes() != text("0102 0201 0f 00"+"02 01ed 0304 0506 00 00 00") {
		t.Errorf("%x, %v", w.Bytes(), err)
	}
}

// There and back: the Cred and the upper are the text's, all else is the config's.
func TestB2Load(t *testing.T) {
	lowers := "d(a=f:3.3'x b=d(c=f'y e=d))"
	b := start(t, who(0, 0, 15, 2, 5), 9, lowers)
	play(t, b, `
		put /n 640 new => ok
		set /n t.a 1 => ok
		remove /a => ok
		remove /b/c => ok
		make /a 1750 => ok
		remove /b/e => ok
		be 3 4 => ok
	`)
	c := load(t, config(who(7, 7, 7, 6), 2), lowers, b.Bytes())
	if !same(c.Upper(), b.Upper()) || !same(c.Flat(), b.Flat()) || !sameCred(c.Cred(), b.Cred()) {
		t.Errorf("%v, %v, not %v, %v", c.Upper(), c.Cred(), b.Upper(), b.Cred())
	}
	play(t, c, `
		cred => 3.4 0 [2 5]
		upper => d(a=D1750 b=d(c=w e=w) n=f640[t.a~1]'new)
		list / => a b n
		list /b => -
		charge => 2
	`)
	c = load(t, config(who(7, 7, 7, 6), 3), "d(b=d(c=f'y q=f'z))", b.Bytes())
	play(t, c, "flat => d(a=d1750 b=d(q=f'z) n=f640[t.a~1]'new)")
}

func TestB2LoadOfOtherTexts(t *testing.T) {
	c := config(admin(), 9)
	b := start(t, who(1, 2, 3, 4, 5), 9, "")
	play(t, b, `
		put /a 644 x => ok
		make /d 755 => ok
	`)
	s := b.Bytes()
	load(t, c, "", s)
	for i := range len(s) {
		refused(t, "one that ends too soon", c, s[:i])
	}
	for x := range 256 {
		refused(t, "one byte longer", c, s+string([]byte{byte(x)}))
	}
	refused(t, "twice", c, s+s)
	upper := s[10:]
	for _, x := range []struct{ what, cred string }{
		{"capabilities that are none", "0001 0002 10 00"},
		{"capabilities that are none", "0001 0002 ff 00"},
		{"a group twice", "0001 0002 03 02 0004 0004"},
		{"groups that fall", "0001 0002 03 02 0005 0004"},
		{"too many groups", "0001 0002 03 05 0001 0002 0003 0004 0005"},
		{"more groups than there are bytes", "0001 0002 03 ff 0001"},
		{"one group less", "0001 0002 03 01 0004 0005"},
		{"one group more", "0001 0002 03 03 0004 0005"},
	} {
		refused(t, x.what, c, text(x.cred)+upper)
	}
	for _, x := range []struct{ what, upper string }{
		{"no upper", ""},
		{"a File", "01 01ed 0000 0000 00 00 00"},
		{"a White", "03 0000 0000 0000 00 00 00"},
		{"a Kind that is none", "04 01ed 0000 0000 00 00 00"},
		{"one that is Opaque", "0a 01ed 0000 0000 00 00 00"},
		{"a Mode that is none", "02 1000 0000 0000 00 00 00"},
		{"a name that is none", "02 01ed 0000 0000 00 00 01 01 41 01 01a4 0000 0000 00 00 00"},
	} {
		refused(t, x.what, c, s[:10]+text(x.upper))
	}
}

// Whites and Opaque are an upper's: a text may have them.
func TestB2LoadAsAnUpper(t *testing.T) {
	s, err := tree.Bytes(node("d:1000.2000(a=w b=D:1001.2001(c=w))"))
	if err != nil {
		t.Fatal(err)
	}
	b := load(t, config(admin(), 1), "d(a=f b=d(d=f) e=f)", text("0000 0000 00 00")+s)
	do(t, b, "list /", call("list /"), api.Told{Names: []string{"b", "e"}}, nil)
	do(t, b, "list /b", call("list /b"), api.Told{}, nil)
	play(t, b, "upper => d(a=w b=D:1.1(c=w))")
}

// An upper that takes just Quota, and one that takes a byte, and so a Block, more.
func TestB2LoadAndQuota(t *testing.T) {
	for _, quota := range []int{1, 2, 3, 4} {
		// '/' has 10 bytes, the file 10 and its name 2.
		most := quota*api.Block - 22
		for _, size := range []int{0, most, most + 1} {
			if size > api.MaxData {
				continue
			}
			n := node("d:1000.2000(a=f:1000.2000)")
			n.Kids[0].Node.Data = strings.Repeat("x", size)
			upper, err := tree.Bytes(n)
			if err != nil {
				t.Fatal(err)
			}
			s := text("0000 0000 00 00") + upper
			if size <= most {
				load(t, config(admin(), quota), "", s)
			} else {
				refused(t, "too much", config(admin(), quota), s)
			}
		}
	}
}

// That ids are in the maps is not asked, of the Cred and of the upper.
func TestB2LoadUnmapped(t *testing.T) {
	n := node("d:7.7(a=f666:8.8'x b=d777:1001.9 c=f:1001.2001'z)")
	upper, err := tree.Bytes(n)
	if err != nil {
		t.Fatal(err)
	}
	b := load(t, config(admin(), 9), "", text("0063 0058 00 01 ffff")+upper)
	if !same(b.Upper(), n) || !sameCred(b.Cred(), who(99, 88, 0, 65535)) {
		t.Errorf("%v, %v", b.Upper(), b.Cred())
	}
	for line, want := range map[string]api.Told{
		"stat /a": {Kind: api.File, Mode: 0o666, User: api.Overflow, Group: api.Overflow, Size: 1},
		"stat /b": {Kind: api.Dir, Mode: 0o777, User: 1, Group: api.Overflow},
		"stat /c": {Kind: api.File, Mode: 0o644, User: 1, Group: 1, Size: 1},
		"list /":  {Names: []string{"a", "b", "c"}},
		"read /a": {Data: "x"},
	} {
		do(t, b, line, call(line), want, nil)
	}
	for line, want := range map[string]error{
		"put /b/n 644 x": api.ErrUnmapped, "make /b/n 755": api.ErrUnmapped, "mode /a 600": api.ErrPerm, "own /a 1 1": api.ErrPerm, "be 99 88": api.ErrUnmapped,
	} {
		do(t, b, line, call(line), api.Told{}, want)
	}
	do(t, b, "put", call("put /a 600 yy"), api.Told{}, nil)
	if n.Kids[0].Node.Data = "yy"; !same(b.Upper(), n) {
		t.Errorf("%v", b.Upper())
	}
	// What Inside makes of ids that the maps have not is nothing.
	want := api.Node{Kids: []api.Kid{{Name: "a"}, {Name: "b"}, {Name: "c", Node: node("f:1.1'z")}}}
	if got := b.Flat(); !same(got, want) {
		t.Errorf("Flat: %v", got)
	}
}

// Load takes any text.
func TestZ1LoadOfAll(t *testing.T) {
	s := []byte(start(t, who(1, 2, 3, 4), 1, "").Bytes())
	for i := range s {
		for x := range 256 {
			other := slices.Clone(s)
			other[i] = byte(x)
			b, err := box.Load(config(admin(), 1), nil, string(other))
			if err == nil && b.Bytes() != string(other) || err != nil && (b != nil || err != api.ErrText) {
				t.Fatalf("%x: %v", other, err)
			}
		}
	}
	refused(t, "long", config(admin(), 64), strings.Repeat("\x00", 1<<20))
	refused(t, "long", config(admin(), 64), strings.Repeat("\xff", 1<<20))
}

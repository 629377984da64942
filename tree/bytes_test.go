package tree_test

import (
	"encoding/hex"
	"strings"
	"testing"

	"idshift/api"
	"idshift/tree"
)

// raw: bytes to the base 16, with blanks between.
func raw(s string) string {
	b, err := hex.DecodeString(strings.ReplaceAll(s, " ", ""))
	if err != nil {
		panic(err)
	}
	return string(b)
}

// written: trees, their bytes, and whether they may be in an upper alone.
type written struct {
	name  string
	n     api.Node
	bytes string
	upper bool
}

func bare(kids ...api.Kid) api.Node { return api.Node{Kind: api.Dir, Kids: kids} }

func writtenAll() []written {
	hi := api.Node{Kind: api.File, Mode: 420, User: 1000, Group: 1000, Data: "hi"}
	most := strings.Repeat("6e", api.MaxData)
	name := strings.Repeat("6e", api.MaxName)
	return []written{
		{"the document's", api.Node{Kind: api.Dir, Mode: 493, Kids: []api.Kid{kid("f", hi)}}, "0201ed0000000000000101660101a403e803e80002686900", false},
		{"the least", bare(), "02 0000 0000 0000 00 00 00", false},
		{"numbers at their ends", api.Node{Kind: api.Dir, Mode: api.MaxMode, User: api.MaxID, Group: api.MaxID}, "02 0fff ffff ffff 00 00 00", false},
		{"numbers apart", api.Node{Kind: api.Dir, Mode: 0x102, User: 0x304, Group: 0x506}, "02 0102 0304 0506 00 00 00", false},
		{"the higher byte first", api.Node{Kind: api.Dir, Mode: 256, User: 255, Group: 256}, "02 0100 00ff 0100 00 00 00", false},
		{"an attribute", api.Node{Kind: api.Dir, Attrs: []api.Attr{{Name: "u.a", Value: "xy"}}}, "02 0000 0000 0000 01 03752e61 027879 00 00", false},
		{"attributes", api.Node{Kind: api.Dir, Attrs: []api.Attr{{Name: "t.b"}, {Name: "u.a", Value: "\xff"}}}, "02 0000 0000 0000 02 03742e62 00 03752e61 01ff 00 00", false},
		{"the longest attribute", api.Node{Kind: api.Dir, Attrs: []api.Attr{{Name: "u." + long(12), Value: long(20)}}}, "02 0000 0000 0000 01 0e752e" + name + "14" + strings.Repeat("6e", 20) + "00 00", false},
		{"as much Data as may be", bare(kid("f", api.Node{Kind: api.File, Data: long(api.MaxData)})), "02 0000 0000 0000 00 00 01 0166 01 0000 0000 0000 00 c8" + most + "00", false},
		{"the longest name", bare(kid(long(12), api.Node{Kind: api.File})), "02 0000 0000 0000 00 00 01 0c" + name + "01 0000 0000 0000 00 00 00", false},
		{"a White", bare(kid("w", white())), "02 0000 0000 0000 00 00 01 0177 03 0000 0000 0000 00 00 00", true},
		{"an Opaque kid", bare(kid("o", api.Node{Kind: api.Dir, Opaque: true})), "02 0000 0000 0000 00 00 01 016f 0a 0000 0000 0000 00 00 00", true},
		{"kids and their kids", bare(kid("a", bare(kid("b", white()))), kid("c", api.Node{Kind: api.File, Data: "d"})),
			"02 0000 0000 0000 00 00 02 0161 02 0000 0000 0000 00 00 01 0162 03 0000 0000 0000 00 00 00 0163 01 0000 0000 0000 00 0164 00", true},
		{"as many as may be", bare(numbered(59, api.Node{Kind: api.File})...), "02 0000 0000 0000 00 00 3b" + numberedBytes(59), false},
	}
}

// numberedBytes of files without Data.
func numberedBytes(n int) string {
	var s strings.Builder
	for _, k := range numbered(n, file("")) {
		s.WriteString("04" + hex.EncodeToString([]byte(k.Name)) + "01 0000 0000 0000 00 00 00")
	}
	return s.String()
}

func TestT3Bytes(t *testing.T) {
	for _, x := range writtenAll() {
		want := raw(x.bytes)
		if got, err := tree.Bytes(x.n); err != nil || got != want {
			t.Errorf("%s: Bytes: %x, %v, not %x", x.name, got, err, want)
		}
		if got := tree.Size(x.n); got != len(want) {
			t.Errorf("%s: Size: %d, not %d", x.name, got, len(want))
		}
	}
}

// What Check refuses in an upper has no bytes.
func TestT3BytesOfWhatMayNotBe(t *testing.T) {
	for _, n := range []api.Node{
		{}, file("x"), white(), closed(), odd(), dir(kid("A", file(""))), dir(kid("b", file("")), kid("a", file(""))),
		dir(kid("a", api.Node{})), dir(kid("a", file(long(201)))), dir(numbered(60, file(""))...), chain(7, dir()),
		with(dir(), func(n *api.Node) { n.Mode = -1 }), with(dir(), func(n *api.Node) { n.Attrs = attrs("x") }),
		dir(kid("w", with(white(), func(n *api.Node) { n.Mode = 1 }))),
		dir(numbered(256, file(""))...), with(dir(), func(n *api.Node) { n.User = 65536 }),
	} {
		want := tree.Check(n, true)
		if got, err := tree.Bytes(n); want == nil || err != want || got != "" {
			t.Errorf("Bytes(%v): %x, %v, not %v", n, got, err, want)
		}
		if got := tree.Size(n); got != 0 {
			t.Errorf("Size(%v): %d", n, got)
		}
	}
}

func TestT3Parse(t *testing.T) {
	for _, x := range writtenAll() {
		s := raw(x.bytes)
		if got, err := tree.Parse(s, true); err != nil || !same(got, x.n) {
			t.Errorf("%s: Parse in an upper: %v, %v", x.name, got, err)
		}
		got, err := tree.Parse(s, false)
		if x.upper && (err != api.ErrText || !zero(got)) || !x.upper && (err != nil || !same(got, x.n)) {
			t.Errorf("%s: Parse in no upper: %v, %v", x.name, got, err)
		}
	}
}

// refuse: no tree has these bytes.
func refuse(t *testing.T, name, s string) {
	t.Helper()
	for _, upper := range []bool{false, true} {
		if got, err := tree.Parse(s, upper); err != api.ErrText || !zero(got) {
			t.Errorf("%s: Parse(%.60x, %v): %v, %v", name, s, upper, got, err)
		}
	}
}

// Bytes that end too soon, and bytes with one more behind them.
func TestT3ParseTooFewTooMany(t *testing.T) {
	all := append(writtenAll(), written{name: "all there is", n: sample()})
	for _, x := range all {
		s, _ := tree.Bytes(x.n)
		for i := range len(s) {
			refuse(t, x.name+", cut off", s[:i])
		}
		for b := range 256 {
			refuse(t, x.name+", one more", s+string([]byte{byte(b)}))
		}
		refuse(t, x.name+", twice", s+s)
	}
}

func TestT3ParseErrors(t *testing.T) {
	const head, none = "02 0000 0000 0000 00 00 ", " 0000 0000 0000 00 00 00"
	for _, x := range []struct{ name, bytes string }{
		{"nothing", ""},
		{"a file", "01" + none},
		{"a White", "03" + none},
		{"an Opaque tree", "0a" + none},
		{"no kind", "00" + none},
		{"another kind", "04" + none},
		{"a bit above", "12" + none},
		{"the highest bit", "82" + none},
		{"a Mode one above", "02 1000 0000 0000 00 00 00"},
		{"Data of a directory", "02 0000 0000 0000 00 0161 00"},
		{"a name that is none", head + "01 0141 01" + none},
		{"an empty name", head + "01 00 01" + none},
		{"a name too long", head + "01 0d" + strings.Repeat("6e", 13) + "01" + none},
		{"the same name twice", head + "02 0161 01" + none + "0161 01" + none},
		{"names that fall", head + "02 0162 01" + none + "0161 01" + none},
		{"a kid of no kind", head + "01 0161 00" + none},
		{"an Opaque file", head + "01 0161 09" + none},
		{"an Opaque White", head + "01 0161 0b" + none},
		{"an Opaque kid of no kind", head + "01 0161 08" + none},
		{"a kid with a bit above", head + "01 0161 11" + none},
		{"a White with a Mode", head + "01 0161 03 0001 0000 0000 00 00 00"},
		{"a White with Data", head + "01 0161 03 0000 0000 0000 00 0161 00"},
		{"a file with a kid", head + "01 0161 01 0000 0000 0000 00 00 01 0161 01" + none},
		{"too much Data", head + "01 0161 01 0000 0000 0000 00 c9" + strings.Repeat("6e", 201) + "00"},
		{"an attribute that is none", "02 0000 0000 0000 01 0178 00 00 00"},
		{"a value too long", "02 0000 0000 0000 01 03752e61 15" + strings.Repeat("6e", 21) + "00 00"},
		{"attributes that fall", "02 0000 0000 0000 02 03752e62 00 03752e61 00 00 00"},
		{"too many attributes", "02 0000 0000 0000 05 03752e61 00 03752e62 00 03752e63 00 03752e64 00 03752e65 00 00 00"},
		{"too many kids", head + "3c" + numberedBytes(60)},
		{"far too many kids", head + "ff" + numberedBytes(255)},
		{"more kids than there are", head + "02 0161 01" + none},
		{"fewer kids than there are", head + "01 0161 01" + none + "0162 01" + none},
		{"too deep", strings.Repeat(head+"01 0161", 7) + "02" + none},
		{"noughts", strings.Repeat("00", 100)},
	} {
		refuse(t, x.name, raw(x.bytes))
	}
	deep := strings.Repeat(head+"01 0161", 6) + "02" + none
	if got, err := tree.Parse(raw(deep), false); err != nil || tree.Size(got) != len(raw(deep)) {
		t.Errorf("as deep as may be: %v, %v", got, err)
	}
}

// Whatever the bytes are: what Parse finds has these bytes, and may be there.
func TestT3ParseOfOtherBytes(t *testing.T) {
	found := 0
	for _, n := range []api.Node{sample(), bare(), dir(kid("a", closed()), kid("b", white()))} {
		s, _ := tree.Bytes(n)
		for i := range len(s) {
			for b := range 256 {
				x := s[:i] + string([]byte{byte(b)}) + s[i+1:]
				for _, upper := range []bool{false, true} {
					got, err := tree.Parse(x, upper)
					if err != nil {
						if err != api.ErrText || !zero(got) {
							t.Fatalf("Parse(%x, %v): %v, %v", x, upper, got, err)
						}
						continue
					}
					found++
					if back, err := tree.Bytes(got); err != nil || back != x || tree.Check(got, upper) != nil {
						t.Fatalf("Parse(%x, %v): %v, whose bytes are %x, %v", x, upper, got, back, err)
					}
				}
			}
		}
	}
	if found < 5000 {
		t.Errorf("only %d of these were trees", found)
	}
}

// A text that goes on and on is left when it can't be a tree any more: neither deep calls nor many nodes come of it.
func TestZ1ParseLongTexts(t *testing.T) {
	shallow(t)
	head, leaf := raw("02 0000 0000 0000 00 00 ff"), raw("0161 01 0000 0000 0000 00 00 00")
	for name, s := range map[string]string{
		"deep":              strings.Repeat(head+raw("0161"), 100000),
		"wide":              head + strings.Repeat(leaf, 100000),
		"deep and wide":     strings.Repeat(head+raw("0161"), 5) + head + strings.Repeat(leaf, 100000),
		"wide and wide":     head + strings.Repeat(raw("0161")+head+strings.Repeat(leaf, 255), 255),
		"the highest bytes": strings.Repeat("\xff", 1000000),
		"counts alone":      strings.Repeat("\x02", 1000000),
	} {
		refuse(t, name, s)
		if made := testing.AllocsPerRun(1, func() { tree.Parse(s, true) }); made > 200 {
			t.Errorf("%s: %v lists are made", name, made)
		}
	}
}

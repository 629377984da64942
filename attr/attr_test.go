package attr_test

import (
	"slices"
	"strings"
	"testing"

	"idshift/api"
	"idshift/attr"
)

// long: n bytes that may all stand in a name.
func long(n int) string { return strings.Repeat("n", n) }

// value: n bytes of a value.
func value(n int) string { return strings.Repeat("v", n) }

// list of these names, each of a value that tells its place.
func list(names ...string) []api.Attr {
	var l []api.Attr
	for i, name := range names {
		l = append(l, api.Attr{Name: name, Value: string([]byte{'0' + byte(i)})})
	}
	return l
}

// with: a list of pairs, a name and a value each.
func with(pairs ...string) []api.Attr {
	var l []api.Attr
	for i := 0; i < len(pairs); i += 2 {
		l = append(l, api.Attr{Name: pairs[i], Value: pairs[i+1]})
	}
	return l
}

// full: as many attributes as may be; others belong ahead of, between and behind them.
func full() []api.Attr { return list("t.b", "t.d", "u.b", "u.d") }

func TestA1Class(t *testing.T) {
	for want, names := range [][]string{
		{
			"", "u", "t", ".", "..", "u.", "t.", ".u", ".t", ".a", "ua", "a", "ab",
			"u..", "t..", "u...", "t...",
			"u." + long(api.MaxName+1), "t." + long(api.MaxName+1), "u." + long(100000), long(100000),
			"x.a", "s.a", "v.a", "U.a", "T.a", "a.u", "\x00.a", "\xff.a", "é.a",
			"uu.a", "ut.a", "tt.a", " u.a", "u .a", "au.a",
			"u.A", "t.A", "u.a/b", "u./", "t. ", "u.a\x00", "t.é", "t.\xff", "u.aB",
			"u/a", "u-a", "t_a", "u:a", "u\x00a", "u,a",
			"tu", "ut",
		},
		{"u.a", "u.z", "u.0", "u._", "u.-", "u.a.b", "u..a", "u.a.", "u....", "u...a", "u.u", "u.t.a", "u.u.a", "u." + long(api.MaxName), "u." + long(api.MaxName-1)},
		{"t.a", "t.z", "t.0", "t._", "t.-", "t.a.b", "t..a", "t.a.", "t....", "t...a", "t.t", "t.u.a", "t.t.a", "t." + long(api.MaxName), "t." + long(api.MaxName-1)},
	} {
		for _, name := range names {
			if got := attr.Class(name); got != want {
				t.Errorf("Class(%.40q): %d, not %d", name, got, want)
			}
		}
	}
}

// Each byte there is, alone and at each place of a name that is short.
func TestA1ClassOfEachByte(t *testing.T) {
	const signs = "abcdefghijklmnopqrstuvwxyz0123456789._-"
	for b := range 256 {
		s := string([]byte{byte(b)})
		if got := attr.Class(s); got != 0 {
			t.Errorf("Class(%q): %d", s, got)
		}
		first := map[string]int{"u": 1, "t": 2}[s]
		if got := attr.Class(s + ".a"); got != first {
			t.Errorf("Class(%q): %d", s+".a", got)
		}
		for i, head := range []string{"u", "t"} {
			second, third := 0, 0
			if s == "." {
				second = i + 1
			}
			if strings.Contains(signs, s) {
				third = i + 1
			}
			if got := attr.Class(head + s + "a"); got != second {
				t.Errorf("Class(%q): %d", head+s+"a", got)
			}
			if got := attr.Class(head + ".a" + s); got != third {
				t.Errorf("Class(%q): %d", head+".a"+s, got)
			}
		}
	}
}

func TestA1CheckRight(t *testing.T) {
	for _, l := range [][]api.Attr{
		nil,
		{},
		list("u.a"),
		list("t.a"),
		list("t.z", "u.a"),
		list("u.a", "u.b"),
		list("u.a", "u.aa"),
		list("u.a", "u.a."),
		list("u.-", "u..a", "u.0", "u._"),
		list("u."+long(api.MaxName-1)+"m", "u."+long(api.MaxName)),
		list("u."+long(api.MaxName-1), "u."+long(api.MaxName)),
		full(),
		list("t.a", "t.b", "t.c", "t.d"),
		with("u.a", ""),
		with("u.a", value(api.MaxValue)),
		with("u.a", "same", "u.b", "same"),
		with("u.a", "z", "u.b", "a"),
		with("u.a", value(api.MaxValue), "u.b", value(api.MaxValue), "u.c", "", "u.d", value(api.MaxValue)),
		with("u.a", "\x00\xff\n /", "u.b", "é"),
	} {
		if err := attr.Check(l); err != nil {
			t.Errorf("Check(%q): %v", l, err)
		}
	}
}

// wrong lists, and what is wrong with them.
func wrong() []wrongList {
	over := value(api.MaxValue + 1)
	return []wrongList{
		{"one too many", list("t.a", "t.b", "t.c", "t.d", "t.e"), api.ErrMany},
		{"far too many", slices.Repeat(list("u.a"), 100000), api.ErrMany},
		{"too many, and the first no name", list("x", "t.b", "t.c", "t.d", "t.e"), api.ErrMany},
		{"too many, and a value too long", with("t.a", over, "t.b", "", "t.c", "", "t.d", "", "t.e", ""), api.ErrMany},
		{"too many, and they fall", list("t.e", "t.d", "t.c", "t.b", "t.a"), api.ErrMany},
		{"no name", list(""), api.ErrName},
		{"one byte alone", list("u"), api.ErrName},
		{"nothing behind", list("u."), api.ErrName},
		{"'.' behind", list("t.."), api.ErrName},
		{"'..' behind", list("t..."), api.ErrName},
		{"another letter ahead", list("s.a", "t.a"), api.ErrName},
		{"too long", list("u." + long(api.MaxName+1)), api.ErrName},
		{"the last is no name", list("t.a", "t.b", "u.a", "u.B"), api.ErrName},
		{"a value too long", with("u.a", over), api.ErrBound},
		{"a value far too long", with("u.a", value(100000)), api.ErrBound},
		{"bytes are counted, not letters", with("u.a", strings.Repeat("é", 11)), api.ErrBound},
		{"the last value too long", with("t.a", "", "t.b", "", "u.a", "", "u.b", over), api.ErrBound},
		{"two that are the same", list("u.a", "u.a"), api.ErrShape},
		{"two that are the same, with values that rise", with("u.a", "a", "u.a", "b"), api.ErrShape},
		{"two that fall", list("u.b", "u.a"), api.ErrShape},
		{"classes that fall", list("u.a", "t.a"), api.ErrShape},
		{"falling in the last byte", list("u.aaab", "u.aaaa"), api.ErrShape},
		{"falling in length alone", list("u.aa", "u.a"), api.ErrShape},
		{"rising by numbers, falling by bytes", list("u.9", "u.10"), api.ErrShape},
		{"'_' stands ahead of letters", list("u.a", "u._"), api.ErrShape},
		{"'-' stands ahead of '.'", list("u..a", "u.-"), api.ErrShape},
		{"the last two are the same", list("t.a", "t.b", "u.a", "u.a"), api.ErrShape},
		{"the last falls below the first", list("t.b", "t.c", "t.d", "t.a"), api.ErrShape},
		{"above the one two ahead alone", list("t.a", "t.c", "t.b"), api.ErrShape},
		{"no name and a value too long", with("x", over), api.ErrName},
		{"no name, and it falls", list("u.a", "A"), api.ErrName},
		{"no name, a value too long, and it falls", with("u.a", "", "A", over), api.ErrName},
		{"a value too long, and it falls", with("u.b", "", "u.a", over), api.ErrBound},
		{"a value too long, and it is the same", with("u.b", "", "u.b", over), api.ErrBound},
		{"a value too long ahead of no name", with("u.a", over, "x", ""), api.ErrBound},
		{"a fall ahead of no name", list("u.b", "u.a", "x"), api.ErrShape},
		{"a fall ahead of a value too long", with("u.b", "", "u.a", "", "u.c", over), api.ErrShape},
		{"no name ahead of a fall", list("", "u.b", "u.a"), api.ErrName},
		{"a value too long ahead of a fall", with("u.b", over, "u.a", ""), api.ErrBound},
	}
}

type wrongList struct {
	name string
	l    []api.Attr
	want error
}

func TestA1CheckErrors(t *testing.T) {
	for _, x := range wrong() {
		if err := attr.Check(x.l); err != x.want {
			t.Errorf("%s: Check: %v, not %v", x.name, err, x.want)
		}
	}
}

// What Check says comes ahead of all that is wrong with a name and a value.
func TestA2CheckFirst(t *testing.T) {
	over := value(api.MaxValue + 1)
	for _, x := range wrong() {
		for _, name := range []string{"u.a", "t.b", "u.zz", "", "x.a"} {
			if s, err := attr.Get(x.l, name); s != "" || err != x.want {
				t.Errorf("%s: Get(%q): %q, %v, not %v", x.name, name, s, err, x.want)
			}
			if l, err := attr.Drop(x.l, name); len(l) != 0 || err != x.want {
				t.Errorf("%s: Drop(%q): %.90q, %v, not %v", x.name, name, l, err, x.want)
			}
			for _, v := range []string{"", over} {
				if l, err := attr.Set(x.l, name, v); len(l) != 0 || err != x.want {
					t.Errorf("%s: Set(%q, %q): %.90q, %v, not %v", x.name, name, v, l, err, x.want)
				}
			}
		}
	}
}

// A name that is none is told ahead of a value that is too long and of a list that is full.
func TestA2NoName(t *testing.T) {
	for _, l := range [][]api.Attr{nil, list("u.a"), full()} {
		for _, name := range []string{"", "u", "u.", "u..", "t...", "x.a", "U.a", "u.A", "a", "t." + long(api.MaxName+1), long(100000)} {
			if s, err := attr.Get(l, name); s != "" || err != api.ErrName {
				t.Errorf("Get(%q, %.40q): %q, %v", l, name, s, err)
			}
			if got, err := attr.Drop(l, name); len(got) != 0 || err != api.ErrName {
				t.Errorf("Drop(%q, %.40q): %q, %v", l, name, got, err)
			}
			for _, n := range []int{0, api.MaxValue, api.MaxValue + 1} {
				if got, err := attr.Set(l, name, value(n)); len(got) != 0 || err != api.ErrName {
					t.Errorf("Set(%q, %.40q, %d bytes): %q, %v", l, name, n, got, err)
				}
			}
		}
	}
}

func TestA2Get(t *testing.T) {
	most := value(api.MaxValue)
	for _, x := range []struct {
		l    []api.Attr
		name string
		want string
		err  error
	}{
		{nil, "u.a", "", api.ErrNone},
		{[]api.Attr{}, "t.a", "", api.ErrNone},
		{list("u.a"), "u.a", "0", nil},
		{list("t.a"), "u.a", "", api.ErrNone},
		{list("u.a"), "t.a", "", api.ErrNone},
		{list("u.ab"), "u.a", "", api.ErrNone},
		{list("u.a"), "u.ab", "", api.ErrNone},
		{with("u.a", ""), "u.a", "", nil},
		{with("u.a", most), "u.a", most, nil},
		{with("u.a", "\x00\xff", "u.b", "x"), "u.a", "\x00\xff", nil},
		{full(), "t.b", "0", nil},
		{full(), "t.d", "1", nil},
		{full(), "u.b", "2", nil},
		{full(), "u.d", "3", nil},
		{full(), "t.a", "", api.ErrNone},
		{full(), "t.c", "", api.ErrNone},
		{full(), "u.a", "", api.ErrNone},
		{full(), "u.c", "", api.ErrNone},
		{full(), "u.e", "", api.ErrNone},
	} {
		if got, err := attr.Get(x.l, x.name); got != x.want || err != x.err {
			t.Errorf("Get(%q, %q): %q, %v, not %q, %v", x.l, x.name, got, err, x.want, x.err)
		}
	}
}

func TestA2Set(t *testing.T) {
	most := value(api.MaxValue)
	three := func() []api.Attr { return list("t.b", "u.b", "u.d") }
	for _, x := range []struct {
		place       string
		l           []api.Attr
		name, value string
		want        []api.Attr
	}{
		{"in none", nil, "u.a", "x", with("u.a", "x")},
		{"in none, of no bytes", []api.Attr{}, "t.a", "", with("t.a", "")},
		{"at the head", three(), "t.a", "x", with("t.a", "x", "t.b", "0", "u.b", "1", "u.d", "2")},
		{"between", three(), "u.a", "x", with("t.b", "0", "u.a", "x", "u.b", "1", "u.d", "2")},
		{"between the last two", three(), "u.c", "x", with("t.b", "0", "u.b", "1", "u.c", "x", "u.d", "2")},
		{"at the end", three(), "u.e", "x", with("t.b", "0", "u.b", "1", "u.d", "2", "u.e", "x")},
		{"behind one that it begins with", list("u.a"), "u.aa", "x", with("u.a", "0", "u.aa", "x")},
		{"ahead of one that begins with it", list("u.aa"), "u.a", "x", with("u.a", "x", "u.aa", "0")},
		{"by the last byte", list("u.aab"), "u.aaa", "x", with("u.aaa", "x", "u.aab", "0")},
		{"class ahead of name", list("t.z"), "u.a", "x", with("t.z", "0", "u.a", "x")},
		{"in the place of the one alone", list("u.a"), "u.a", "x", with("u.a", "x")},
		{"in the place of the first", full(), "t.b", "x", with("t.b", "x", "t.d", "1", "u.b", "2", "u.d", "3")},
		{"in the place of the second", full(), "t.d", "x", with("t.b", "0", "t.d", "x", "u.b", "2", "u.d", "3")},
		{"in the place of the third", full(), "u.b", "x", with("t.b", "0", "t.d", "1", "u.b", "x", "u.d", "3")},
		{"in the place of the last", full(), "u.d", "x", with("t.b", "0", "t.d", "1", "u.b", "2", "u.d", "x")},
		{"the same again", full(), "u.d", "3", full()},
		{"no bytes in the place of some", list("u.a"), "u.a", "", with("u.a", "")},
		{"a value as long as may be", list("u.a"), "u.b", most, with("u.a", "0", "u.b", most)},
		{"a value as long as may be, in the place of one", full(), "u.b", most, with("t.b", "0", "t.d", "1", "u.b", most, "u.d", "3")},
		{"a value that is no text", nil, "u.a", "\x00\xff\n /", with("u.a", "\x00\xff\n /")},
	} {
		got, err := attr.Set(x.l, x.name, x.value)
		if err != nil || !slices.Equal(got, x.want) {
			t.Errorf("%s: Set(%q, %q, %q): %q, %v", x.place, x.l, x.name, x.value, got, err)
		}
	}
}

func TestA2SetErrors(t *testing.T) {
	for _, x := range []struct {
		name string
		l    []api.Attr
		of   string
		n    int
		want error
	}{
		{"a value too long", nil, "u.a", api.MaxValue + 1, api.ErrBound},
		{"a value far too long", nil, "u.a", 100000, api.ErrBound},
		{"a value too long, in the place of one", list("u.a"), "u.a", api.MaxValue + 1, api.ErrBound},
		{"a value too long, in the place of one of MaxAttrs", full(), "u.b", api.MaxValue + 1, api.ErrBound},
		{"a value too long, and MaxAttrs are there", full(), "u.c", api.MaxValue + 1, api.ErrBound},
		{"MaxAttrs are there, at the head", full(), "t.a", 1, api.ErrMany},
		{"MaxAttrs are there, between", full(), "t.c", 1, api.ErrMany},
		{"MaxAttrs are there, between classes", full(), "u.a", api.MaxValue, api.ErrMany},
		{"MaxAttrs are there, at the end", full(), "u.e", 0, api.ErrMany},
	} {
		if got, err := attr.Set(x.l, x.of, value(x.n)); len(got) != 0 || err != x.want {
			t.Errorf("%s: Set: %q, %v, not %v", x.name, got, err, x.want)
		}
	}
}

func TestA2Drop(t *testing.T) {
	for _, x := range []struct {
		l    []api.Attr
		name string
		want []api.Attr
		err  error
	}{
		{nil, "u.a", nil, api.ErrNone},
		{[]api.Attr{}, "t.a", nil, api.ErrNone},
		{list("u.a"), "u.a", nil, nil},
		{with("u.a", ""), "u.a", nil, nil},
		{list("u.a"), "t.a", nil, api.ErrNone},
		{list("u.ab"), "u.a", nil, api.ErrNone},
		{list("u.a"), "u.ab", nil, api.ErrNone},
		{list("u.a", "u.b"), "u.a", with("u.b", "1"), nil},
		{list("u.a", "u.b"), "u.b", with("u.a", "0"), nil},
		{full(), "t.b", with("t.d", "1", "u.b", "2", "u.d", "3"), nil},
		{full(), "t.d", with("t.b", "0", "u.b", "2", "u.d", "3"), nil},
		{full(), "u.b", with("t.b", "0", "t.d", "1", "u.d", "3"), nil},
		{full(), "u.d", with("t.b", "0", "t.d", "1", "u.b", "2"), nil},
		{full(), "t.a", nil, api.ErrNone},
		{full(), "t.c", nil, api.ErrNone},
		{full(), "u.c", nil, api.ErrNone},
		{full(), "u.e", nil, api.ErrNone},
	} {
		if got, err := attr.Drop(x.l, x.name); !slices.Equal(got, x.want) || err != x.err {
			t.Errorf("Drop(%q, %q): %q, %v, not %q, %v", x.l, x.name, got, err, x.want, x.err)
		}
	}
}

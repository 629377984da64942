package path_test

import (
	"slices"
	"strings"
	"testing"

	"idshift/api"
	"idshift/path"
)

// signs that a name may have.
const signs = "abcdefghijklmnopqrstuvwxyz0123456789._-"

// long: n bytes that may all stand in a name.
func long(n int) string { return strings.Repeat("n", n) }

// many: n names that differ, each of one byte.
func many(n int) []string {
	var l []string
	for i := range n {
		l = append(l, signs[i:i+1])
	}
	return l
}

func TestP1Names(t *testing.T) {
	for _, s := range []string{"a", "z", "0", "9", "_", "-", "a.b", ".a", "a.", "...", "..a", "a..", "._", "-.", "x_y-z", long(api.MaxName - 1), long(api.MaxName), strings.Repeat(".", api.MaxName), "abcdefghijkl", "mnopqrstuvwx", "yz0123456789"} {
		if !path.Name(s) {
			t.Errorf("Name(%q): false", s)
		}
	}
	for _, s := range []string{"", ".", "..", long(api.MaxName + 1), strings.Repeat(".", api.MaxName+1), long(100000), "A", "Z", "aB", "a/", "/a", "/", "a b", " ", "a\x00", "\x00", "é", "a\xff", "ａ", "a\n"} {
		if path.Name(s) {
			t.Errorf("Name(%q): true", s)
		}
	}
}

// Each byte there is, alone and at each place of a name as long as may be.
func TestP1Signs(t *testing.T) {
	for b := range 256 {
		s := string([]byte{byte(b)})
		want := strings.Contains(signs, s)
		if got := path.Name(s); got != (want && s != ".") {
			t.Errorf("Name(%q): %v", s, got)
		}
		for i := range api.MaxName {
			x := long(i) + s + long(api.MaxName-1-i)
			if got := path.Name(x); got != want {
				t.Errorf("Name(%q): %v", x, got)
			}
		}
	}
}

// longest: a path of MaxDepth names, each as long as may be.
func longest() string { return strings.Repeat("/"+long(api.MaxName), api.MaxDepth) }

func TestP2Split(t *testing.T) {
	full := slices.Repeat([]string{long(api.MaxName)}, api.MaxDepth)
	for _, x := range []struct {
		p    string
		want []string
	}{
		{"/", nil},
		{"/a", []string{"a"}},
		{"/a/b", []string{"a", "b"}},
		{"/b/a/b", []string{"b", "a", "b"}},
		{"/a.b/..c/x_y-z", []string{"a.b", "..c", "x_y-z"}},
		{"/a/b/c/d/e/f", many(api.MaxDepth)},
		{longest(), full},
	} {
		got, err := path.Split(x.p)
		if err != nil || !slices.Equal(got, x.want) {
			t.Errorf("Split(%q): %q, %v", x.p, got, err)
		}
	}
}

func TestP2SplitErrors(t *testing.T) {
	one79 := strings.Repeat("/a", 39) + "b"
	for _, x := range []struct {
		name, p string
		want    error
	}{
		{"nothing", "", api.ErrName},
		{"no '/'", "a", api.ErrName},
		{"no '/', more than a byte", "ab", api.ErrName},
		{"no '/' ahead", "a/b", api.ErrName},
		{"more than a byte ahead of '/'", "ab/c", api.ErrName},
		{"another sign in the place of '/'", "\\a/b", api.ErrName},
		{"as many as may be, no '/' ahead", "ab/c/d/e/f/g", api.ErrName},
		{"something ahead of '/'", "a/", api.ErrName},
		{"a '.' ahead", "./a", api.ErrName},
		{"two '/' ahead", "//a", api.ErrName},
		{"two '/' alone", "//", api.ErrName},
		{"three '/' alone", "///", api.ErrName},
		{"two '/' together", "/a//b", api.ErrName},
		{"'/' at the end", "/a/", api.ErrName},
		{"two '/' at the end", "/a//", api.ErrName},
		{"'.'", "/.", api.ErrName},
		{"'..' ahead", "/../a", api.ErrName},
		{"'.' between", "/a/./b", api.ErrName},
		{"'..' at the end", "/a/..", api.ErrName},
		{"a sign that no name has", "/a/B", api.ErrName},
		{"a blank ahead", " /a", api.ErrName},
		{"a NUL at the end", "/a\x00", api.ErrName},
		{"no text", "/\xff\xfe", api.ErrName},
		{"a name too long", "/" + long(api.MaxName+1), api.ErrName},
		{"the last name too long", "/a/" + long(api.MaxName+1), api.ErrName},
		{"one name too many", "/a/b/c/d/e/f/g", api.ErrMany},
		{"as many as may be, and '/' at the end", "/a/b/c/d/e/f/", api.ErrName},
		{"too many, and '/' at the end", "/a/b/c/d/e/f/g/", api.ErrName},
		{"too many, the last one no name", "/a/b/c/d/e/f/G", api.ErrName},
		{"too many, the first one no name", "/A/b/c/d/e/f/g", api.ErrName},
		{"too many, and no '/' ahead", "a/b/c/d/e/f/g/h", api.ErrName},
		{"the longest, and '/' at the end", longest() + "/", api.ErrName},
		{"the longest, and one byte more", longest() + "n", api.ErrName},
		{"too many, as long as may be", one79, api.ErrMany},
		{"too many, one byte shorter", one79[:78], api.ErrMany},
		{"too many, one byte longer than may be", one79 + "b", api.ErrName},
		{"far too many", strings.Repeat("/a", 10000), api.ErrName},
	} {
		got, err := path.Split(x.p)
		if err != x.want || len(got) != 0 {
			t.Errorf("%s: Split(%q): %q, %v, not %v", x.name, x.p, got, err, x.want)
		}
	}
	if len(longest()) != 78 || len(one79) != 79 {
		t.Errorf("the paths at the bound have %d and %d bytes", len(longest()), len(one79))
	}
}

func TestP2Join(t *testing.T) {
	for _, x := range []struct {
		l    []string
		want string
	}{
		{nil, "/"},
		{[]string{}, "/"},
		{[]string{"a"}, "/a"},
		{[]string{"b", "a", "b"}, "/b/a/b"},
		{many(api.MaxDepth), "/a/b/c/d/e/f"},
		{slices.Repeat([]string{long(api.MaxName)}, api.MaxDepth), longest()},
	} {
		if got, err := path.Join(x.l); err != nil || got != x.want {
			t.Errorf("Join(%q): %q, %v", x.l, got, err)
		}
	}
}

func TestP2JoinErrors(t *testing.T) {
	for _, x := range []struct {
		name string
		l    []string
		want error
	}{
		{"an empty name", []string{""}, api.ErrName},
		{"an empty name at the end", []string{"a", ""}, api.ErrName},
		{"'.'", []string{"."}, api.ErrName},
		{"'..' ahead", []string{"..", "a"}, api.ErrName},
		{"a path", []string{"a/b"}, api.ErrName},
		{"'/'", []string{"/"}, api.ErrName},
		{"a name too long", []string{"a", long(api.MaxName + 1)}, api.ErrName},
		{"one too many", many(api.MaxDepth + 1), api.ErrMany},
		{"far too many", slices.Repeat([]string{"a"}, 100000), api.ErrMany},
		{"too many, the last one no name", append(many(api.MaxDepth), "G"), api.ErrName},
		{"too many, the first one no name", append([]string{"A"}, many(api.MaxDepth)...), api.ErrName},
		{"too many, one far behind is no name", append(slices.Repeat([]string{"a"}, 1000), ".."), api.ErrName},
	} {
		if got, err := path.Join(x.l); err != x.want || got != "" {
			t.Errorf("%s: Join(%.60q): %q, %v, not %v", x.name, x.l, got, err, x.want)
		}
	}
}

// What Join makes of names Split takes apart again, and the other way round.
func TestP2ThereAndBack(t *testing.T) {
	words := []string{"a", "b.c", "x_y-z", "..0", long(api.MaxName)}
	for depth := range api.MaxDepth + 1 {
		for first := range words {
			var l []string
			for i := range depth {
				l = append(l, words[(first+i*i)%len(words)])
			}
			p, err := path.Join(l)
			got, err2 := path.Split(p)
			if err != nil || err2 != nil || !slices.Equal(got, l) {
				t.Errorf("%q is %q, and that is %q: %v, %v", l, p, got, err, err2)
			}
		}
	}
}

func TestP3Under(t *testing.T) {
	for _, x := range []struct {
		name     string
		above, l []string
		want     bool
	}{
		{"no names, both", nil, nil, true},
		{"no names, one of them nil", nil, []string{}, true},
		{"under '/'", nil, []string{"a"}, true},
		{"'/' under another", []string{"a"}, nil, false},
		{"itself", []string{"a", "b"}, []string{"a", "b"}, true},
		{"a kid", []string{"a"}, []string{"a", "b"}, true},
		{"a kid's kid", []string{"a"}, []string{"a", "b", "c"}, true},
		{"what is above", []string{"a", "b"}, []string{"a"}, false},
		{"another", []string{"a"}, []string{"b"}, false},
		{"another's kid", []string{"a"}, []string{"b", "a"}, false},
		{"a name that begins with it", []string{"a"}, []string{"ab"}, false},
		{"a name that it begins with", []string{"ab"}, []string{"a"}, false},
		{"the last one differs", []string{"a", "b"}, []string{"a", "c", "b"}, false},
		{"the first one differs", []string{"x", "b"}, []string{"a", "b"}, false},
		{"names that are none", []string{"", ".."}, []string{"", "..", "/"}, true},
		{"the same bytes in other pieces", []string{"a", "bc"}, []string{"ab", "c"}, false},
		{"a path in one piece", []string{"a/b"}, []string{"a", "b"}, false},
		{"more than MaxDepth", many(9), many(10), true},
		{"more than MaxDepth, turned", many(10), many(9), false},
	} {
		if got := path.Under(x.above, x.l); got != x.want {
			t.Errorf("%s: Under(%q, %q): %v", x.name, x.above, x.l, got)
		}
	}
}

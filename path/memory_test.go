package path_test

import (
	"slices"
	"testing"

	"idshift/path"
)

func TestZ2NamesHandedIn(t *testing.T) {
	whole := []string{"a", "b", "C", "d"}
	kept := slices.Clone(whole)
	if got, err := path.Join(whole[:2]); err != nil || got != "/a/b" {
		t.Errorf("Join read behind the names it was handed: %q, %v", got, err)
	}
	path.Join(whole)
	if path.Under(whole[:3], whole[:2]) {
		t.Error("Under read behind the names it was handed")
	}
	if !path.Under(whole[:1], whole[:2]) || !path.Under(whole[:2], []string{"a", "b", "x"}) {
		t.Error("Under read behind the names above that it was handed")
	}
	if !slices.Equal(whole, kept) {
		t.Errorf("what was handed in is %q now", whole)
	}
	// Nothing is kept: other names in the same memory answer otherwise.
	whole[0] = "x"
	if got, err := path.Join(whole[:2]); err != nil || got != "/x/b" {
		t.Errorf("Join kept the names it was handed: %q, %v", got, err)
	}
}

func TestZ2SplitIsFresh(t *testing.T) {
	for _, p := range []string{"/a", "/a/b/c", "/a/b/c/d/e/f"} {
		first, _ := path.Split(p)
		second, _ := path.Split(p)
		want := slices.Clone(second)
		for i := range first[:cap(first)] {
			first[:cap(first)][i] = "spoilt"
		}
		if third, _ := path.Split(p); !slices.Equal(second, want) || !slices.Equal(third, want) {
			t.Errorf("Split(%q) answers memory twice: %q, %q", p, second, third)
		}
	}
}

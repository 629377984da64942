package idmap_test

import (
	"slices"
	"testing"

	"idshift/api"
	"idshift/idmap"
)

// behind m in memory there is more, which is none of the map's: ranges that would alter every answer.
func withMoreBehind(m ranges) (whole, front ranges) {
	whole = append(slices.Clone(m), api.Range{In: 11, Out: 22, Count: 9}, api.Range{In: 200, Out: 300, Count: 9})
	return whole, whole[:len(m)]
}

// calls: each call that is handed maps; those that answer a list answer it.
func calls() map[string]func(m ranges) ranges {
	return map[string]func(m ranges) ranges{
		"Check":          func(m ranges) ranges { idmap.Check(m); return nil },
		"ToHost":         func(m ranges) ranges { idmap.ToHost(m, 9); return nil },
		"FromHost":       func(m ranges) ranges { idmap.FromHost(m, 20); return nil },
		"Canon":          func(m ranges) ranges { l, _ := idmap.Canon(m); return l },
		"Turn":           func(m ranges) ranges { l, _ := idmap.Turn(m); return l },
		"Then, as first": func(m ranges) ranges { l, _ := idmap.Then(m, of(rows{{0, 0, 40000}})); return l },
		"Then, behind":   func(m ranges) ranges { l, _ := idmap.Then(of(rows{{0, 0, 40000}}), m); return l },
		"Then, as both":  func(m ranges) ranges { l, _ := idmap.Then(m, m); return l },
	}
}

func TestZ2MapsHandedIn(t *testing.T) {
	for _, l := range []rows{nil, rightRows, {{5, 5, 2}}, {{0, 0, 9}, {8, 8, 1}}, {{0, 0, 9}, {9, 9, 0}}} {
		m := of(l)
		for name, call := range calls() {
			whole, front := withMoreBehind(m)
			kept := slices.Clone(whole)
			got := call(front)
			if !slices.Equal(whole, kept) {
				t.Errorf("%s wrote into what it was handed: %v, not %v", name, whole, kept)
			}
			if want := call(slices.Clip(slices.Clone(m))); !slices.Equal(got, want) {
				t.Errorf("%s read behind what it was handed: %v, not %v", name, got, want)
			}
			before := slices.Clone(got)
			for i := range whole {
				whole[i] = api.Range{In: -7, Out: -7, Count: -7}
			}
			if !slices.Equal(got, before) {
				t.Errorf("%s: what it answered is the memory of what it was handed", name)
			}
		}
	}
}

func TestZ2AnswersAreFresh(t *testing.T) {
	for name, call := range calls() {
		m := right()
		first, second := call(m), call(m)
		want := slices.Clone(second)
		spoil(first)
		if !slices.Equal(second, want) {
			t.Errorf("%s: two answers share memory", name)
		}
		if !slices.Equal(m, right()) {
			t.Errorf("%s: its answer is the memory of what it was handed", name)
		}
		if third := call(m); !slices.Equal(third, want) {
			t.Errorf("%s: it kept what it had answered: %v, not %v", name, third, want)
		}
	}
}

// spoil all of a list's memory, also what it has room for.
func spoil(l ranges) {
	l = l[:cap(l)]
	for i := range l {
		l[i] = api.Range{In: -9, Out: -9, Count: -9}
	}
}

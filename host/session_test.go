package host_test

import (
	"slices"
	"testing"

	"idshift/api"
	"idshift/host"
)

// ranges of one id after the other.
func ranges(l ...int) []api.Range {
	var m []api.Range
	for r := range slices.Chunk(l, 3) {
		m = append(m, api.Range{In: r[0], Out: r[1], Count: r[2]})
	}
	return m
}

// asked: a call of a box, and what is told.
func asked(t *testing.T, h *host.Host, id int, c api.Call, want api.Told, wrong error) {
	t.Helper()
	if told, err := h.Do(id, c); err != wrong || !sameTold(told, want) {
		t.Errorf("box %d: %+v: %v, %v, not %v, %v", id, c, told, err, want, wrong)
	}
}

// The document's session.
func TestH1ToH4Session(t *testing.T) {
	d := blank(t, 300)
	h, err := host.Format(d)
	done(t, err)
	all := api.Cred{Caps: api.AllCaps}
	addBox(t, h, api.Config{Maps: api.Maps{Users: ranges(0, 1000, 10, 10, 5000, 5), Groups: ranges(0, 1000, 15)}, Cred: all, Quota: 8}, 0)
	none := api.Told{}
	asked(t, h, 0, putting("/f", "hi"), none, nil)
	asked(t, h, 0, api.Call{Op: api.CallMake, Path: "/d", A: 493}, none, nil)
	asked(t, h, 0, api.Call{Op: api.CallPut, Path: "/d/g", A: 2541}, none, nil)
	asked(t, h, 0, api.Call{Op: api.CallOwn, Path: "/d/g", A: 12, B: 3}, none, nil)
	asked(t, h, 0, api.Call{Op: api.CallStat, Path: "/d/g"}, api.Told{Kind: api.File, Mode: 2541, User: 12, Group: 3}, nil)
	seal(t, h, 0, 0)
	addBox(t, h, api.Config{Maps: api.Maps{Users: ranges(0, 2000, 12), Groups: ranges(0, 2000, 15)}, Cred: api.Cred{User: 1, Group: 1}, Quota: 2, Lowers: []int{0}}, 1)
	asked(t, h, 1, api.Call{Op: api.CallList, Path: "/"}, api.Told{Names: []string{"d", "f"}}, nil)
	asked(t, h, 1, api.Call{Op: api.CallStat, Path: "/d/g"}, api.Told{Kind: api.File, Mode: 2541, User: api.Overflow, Group: 3}, nil)
	asked(t, h, 1, api.Call{Op: api.CallRead, Path: "/f"}, api.Told{Data: "hi"}, nil)
	asked(t, h, 1, putting("/f", "\x00"), none, api.ErrAccess)
	addBox(t, h, api.Config{Maps: api.Maps{Users: ranges(0, 3000, 15), Groups: ranges(0, 3000, 15)}, Cred: all, Quota: 4, Lowers: []int{0}}, 2)
	asked(t, h, 2, putting("/f", "\x00"), none, nil)
	asked(t, h, 2, api.Call{Op: api.CallRemove, Path: "/d/g"}, none, nil)
	asked(t, h, 2, api.Call{Op: api.CallMove, Path: "/d", Other: "/e"}, none, api.ErrCross)
	asked(t, h, 2, api.Call{Op: api.CallCharge}, api.Told{Size: 1}, nil)
	asked(t, h, 2, api.Call{Op: api.CallBe, A: 1, B: 1}, none, nil)
	if err := h.DropLower(0); err != api.ErrHeld {
		t.Errorf("%v", err)
	}
	done(t, h.DropBox(1))
	stands(t, "a box is gone", h, []int{0}, []int{0, 2}, 71)
	done(t, d.Cut(30))
	asked(t, h, 2, api.Call{Op: api.CallBe}, none, api.ErrPerm)
	asked(t, h, 0, api.Call{Op: api.CallBe, A: 3, B: 3}, none, api.ErrOff)
	stands(t, "power has failed", h, []int{0}, []int{0, 2}, 71)
	d.On()
	h = open(t, d)
	asked(t, h, 0, api.Call{Op: api.CallMake, Path: "/x", A: 448}, none, nil)
}

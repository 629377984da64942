package box_test

import (
	"testing"

	"idshift/api"
	"idshift/box"
)

// boxed: a box of these, over what others are seen to have.
func boxed(t *testing.T, c api.Config, lowers ...api.Node) scene {
	t.Helper()
	b, err := box.New(c, lowers)
	if err != nil {
		t.Fatal(err)
	}
	return scene{b, lowers}
}

// told: lines, with their answers alone.
func told(t *testing.T, b scene, lines ...[2]string) {
	t.Helper()
	for _, x := range lines {
		c := call(x[0])
		want, err := answer(t, c.Op, x[1])
		do(t, b, x[0], c, want, err)
	}
}

// The document's session, as far as it is boxes' own.
func TestB4Session(t *testing.T) {
	both := func(in, out, count int) []api.Range { return []api.Range{{In: in, Out: out, Count: count}} }
	zero := boxed(t, api.Config{Maps: api.Maps{Users: append(both(0, 1000, 10), both(10, 5000, 5)...), Groups: both(0, 1000, 15)}, Cred: admin(), Quota: 8})
	told(t, zero, [][2]string{
		{"put /f 644 hi", "ok"}, {"make /d 755", "ok"}, {"put /d/g 4755 -", "ok"}, {"own /d/g 12 3", "ok"}, {"stat /d/g", "f 4755 12.3 0"},
	}...)
	if got := zero.Upper().Kids[0].Node.Kids[0].Node; got.User != 5002 || got.Group != 1003 {
		t.Errorf("%v", got)
	}
	sealed := zero.Flat()
	one := boxed(t, api.Config{Maps: api.Maps{Users: both(0, 2000, 12), Groups: both(0, 2000, 15)}, Cred: who(1, 1, 0), Quota: 2}, sealed)
	told(t, one, [][2]string{
		{"list /", "d f"}, {"stat /d/g", "f 4755 65534.3 0"}, {"read /f", "hi"}, {"put /f 644 x", "access"}, {"own /f 1 1", "perm"},
	}...)
	two := boxed(t, api.Config{Maps: api.Maps{Users: both(0, 3000, 15), Groups: both(0, 3000, 15)}, Cred: admin(), Quota: 4}, sealed)
	told(t, two, [][2]string{
		{"put /f 644 x", "ok"}, {"mode /d/g 777", "ok"}, {"remove /d/g", "ok"}, {"list /d", "-"}, {"move /d /e", "cross"}, {"remove /d", "ok"}, {"make /d 755", "ok"}, {"move /d /e", "ok"}, {"charge", "1"},
		{"own /f 20 -1", "unmapped"}, {"be 1 1", "ok"}, {"put /f 644 -", "access"}, {"be 0 0", "perm"},
	}...)
	told(t, zero, [2]string{"make /x 700", "ok"})
}

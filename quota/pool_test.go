package quota_test

import (
	"testing"

	"idshift/api"
	"idshift/quota"
)

// pool of a room that may be.
func pool(t *testing.T, room int) *quota.Pool {
	t.Helper()
	p, err := quota.New(room)
	if err != nil || p == nil {
		t.Fatalf("New(%d): %v, %v", room, p, err)
	}
	return p
}

func TestQ2New(t *testing.T) {
	for _, room := range []int{-1 << 63, -2000, -1, api.MaxDisk + 1, 1<<63 - 1} {
		if p, err := quota.New(room); p != nil || err != api.ErrBound {
			t.Errorf("New(%d): %v, %v", room, p, err)
		}
	}
	for _, room := range []int{0, 1, 64, api.MaxDisk - 1, api.MaxDisk} {
		p := pool(t, room)
		if n, is := p.Of(0); p.Left() != room || n != 0 || is {
			t.Errorf("New(%d): %d are left, somebody has %d, %v", room, p.Left(), n, is)
		}
	}
}

// step: a Take or a Give of a pool, and what is so behind it; ahead of it the step ahead has told.
type step struct {
	name   string
	give   bool
	who, n int
	err    error
	has    int
	is     bool
	left   int
}

func run(t *testing.T, room int, steps []step) {
	t.Helper()
	p := pool(t, room)
	for _, x := range steps {
		var err error
		if x.give {
			err = p.Give(x.who)
		} else {
			err = p.Take(x.who, x.n)
		}
		has, is := p.Of(x.who)
		if err != x.err || has != x.has || is != x.is || p.Left() != x.left {
			t.Errorf("room %d, %s: %v, then %d, %v, %d left, not %v, %d, %v, %d", room, x.name, err, has, is, p.Left(), x.err, x.has, x.is, x.left)
		}
	}
}

func TestQ2TakeAndGive(t *testing.T) {
	run(t, 10, []step{
		{"Give of somebody that never had some", true, 1, 0, api.ErrNone, 0, false, 10},
		{"Take below 0", false, 1, -1, api.ErrBound, 0, false, 10},
		{"Take of more than there are", false, 1, 11, api.ErrNoRoom, 0, false, 10},
		{"Take", false, 1, 4, nil, 4, true, 6},
		{"Take twice", false, 1, 1, api.ErrExist, 4, true, 6},
		{"Take of 0, twice", false, 1, 0, api.ErrExist, 4, true, 6},
		{"Take twice below 0", false, 1, -1, api.ErrBound, 4, true, 6},
		{"Take twice, of more than are left", false, 1, 7, api.ErrExist, 4, true, 6},
		{"Take of 0", false, 2, 0, nil, 0, true, 6},
		{"Take behind a Take of 0", false, 2, 1, api.ErrExist, 0, true, 6},
		{"Take of 0 behind a Take of 0", false, 2, 0, api.ErrExist, 0, true, 6},
		{"Take of one more than are left", false, 3, 7, api.ErrNoRoom, 0, false, 6},
		{"Take of all that are left", false, 3, 6, nil, 6, true, 0},
		{"Take of one when none is left", false, 4, 1, api.ErrNoRoom, 0, false, 0},
		{"Take of 0 when none is left", false, 4, 0, nil, 0, true, 0},
		{"Give of 0", true, 4, 0, nil, 0, false, 0},
		{"Give of 0, twice", true, 4, 0, api.ErrNone, 0, false, 0},
		{"Give", true, 1, 0, nil, 0, false, 4},
		{"Give twice", true, 1, 0, api.ErrNone, 0, false, 4},
		{"Take anew, of one more than are left", false, 1, 5, api.ErrNoRoom, 0, false, 4},
		{"Take anew", false, 1, 3, nil, 3, true, 1},
		{"Give of another one", true, 3, 0, nil, 0, false, 7},
		{"Give of one that has 0", true, 2, 0, nil, 0, false, 7},
		{"Give of the last one", true, 1, 0, nil, 0, false, 10},
		{"Take of all", false, 9, 10, nil, 10, true, 0},
		{"Give of all", true, 9, 0, nil, 0, false, 10},
	})
}

func TestQ2NoRoomAtAll(t *testing.T) {
	run(t, 0, []step{
		{"one", false, 1, 1, api.ErrNoRoom, 0, false, 0},
		{"none", false, 1, 0, nil, 0, true, 0},
		{"none, twice", false, 1, 0, api.ErrExist, 0, true, 0},
		{"given", true, 1, 0, nil, 0, false, 0},
	})
}

// Somebody is any number.
func TestQ2AnyNumbers(t *testing.T) {
	p := pool(t, api.MaxDisk)
	all := []int{-1 << 63, -65536, -2, -1, 0, 1, 2, 65536, 1<<63 - 1}
	for i, who := range all {
		if err := p.Take(who, i); err != nil {
			t.Errorf("Take of %d: %v", who, err)
		}
	}
	if p.Left() != api.MaxDisk-36 {
		t.Errorf("%d are left", p.Left())
	}
	for i, who := range all {
		if n, is := p.Of(who); n != i || !is {
			t.Errorf("%d has %d, %v", who, n, is)
		}
		if err := p.Give(who); err != nil {
			t.Errorf("Give of %d: %v", who, err)
		}
		if n, is := p.Of(who); n != 0 || is {
			t.Errorf("%d has %d, %v", who, n, is)
		}
	}
	if p.Left() != api.MaxDisk {
		t.Errorf("%d are left", p.Left())
	}
}

func TestQ2NumbersOfBlocks(t *testing.T) {
	for _, x := range []struct {
		n   int
		err error
	}{{-1 << 63, api.ErrBound}, {-1, api.ErrBound}, {0, nil}, {api.MaxDisk, nil}, {api.MaxDisk + 1, api.ErrNoRoom}, {1<<63 - 1, api.ErrNoRoom}} {
		p := pool(t, api.MaxDisk)
		if err := p.Take(0, x.n); err != x.err {
			t.Errorf("Take of %d: %v", x.n, err)
		}
		if n, is := p.Of(0); is != (x.err == nil) || is && n != x.n || !is && n != 0 || p.Left() != api.MaxDisk-n {
			t.Errorf("Take of %d: %d, %v, %d left", x.n, n, is, p.Left())
		}
	}
}

// One pool knows nothing of another.
func TestQ2Apart(t *testing.T) {
	a, b := pool(t, 5), pool(t, 5)
	if err := a.Take(1, 5); err != nil {
		t.Error(err)
	}
	if n, is := b.Of(1); n != 0 || is || b.Left() != 5 || b.Give(1) != api.ErrNone {
		t.Errorf("%d, %v, %d left", n, is, b.Left())
	}
	if err := b.Take(1, 3); err != nil || a.Left() != 0 || b.Left() != 2 {
		t.Errorf("%v, %d, %d left", err, a.Left(), b.Left())
	}
}

// die: numbers that look drawn, the same each time.
type die uint64

func (d *die) n(most int) int {
	*d = *d*6364136223846793005 + 1442695040888963407
	return int(uint64(*d>>33) % uint64(most))
}

// held: a second telling of Q2: who has how many, in a list.
type held struct{ who, n int }

func find(l []held, who int) (at, sum int) {
	at = -1
	for i, h := range l {
		sum += h.n
		if h.who == who {
			at = i
		}
	}
	return at, sum
}

func TestQ2Drawn(t *testing.T) {
	d := die(9)
	for range 300 {
		room := d.n(40)
		p := pool(t, room)
		var l []held
		for range 60 {
			who, n := d.n(6)-2, d.n(14)-1
			at, sum := find(l, who)
			var want, err error
			if d.n(3) == 0 {
				err = p.Give(who)
				if at < 0 {
					want = api.ErrNone
				} else {
					l = append(l[:at], l[at+1:]...)
				}
			} else {
				err = p.Take(who, n)
				switch {
				case n < 0:
					want = api.ErrBound
				case at >= 0:
					want = api.ErrExist
				case n > room-sum:
					want = api.ErrNoRoom
				default:
					l = append(l, held{who, n})
				}
			}
			if err != want {
				t.Fatalf("room %d, %v: %d, %d: %v, not %v", room, l, who, n, err, want)
			}
			at, sum = find(l, who)
			has, is := p.Of(who)
			if is != (at >= 0) || is && has != l[at].n || !is && has != 0 || p.Left() != room-sum {
				t.Fatalf("room %d, %v: %d has %d, %v, %d left", room, l, who, has, is, p.Left())
			}
		}
	}
}

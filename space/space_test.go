package space_test

import (
	"math"
	"math/rand/v2"
	"slices"
	"testing"

	"lien/api"
	"lien/space"
)

// made is a map that must be made.
func made(t *testing.T, sectors int) *space.Map {
	t.Helper()
	m, e := space.New(sectors)
	if e != api.OK || m == nil {
		t.Fatal(sectors, e)
	}
	return m
}

func TestP6_1Plots(t *testing.T) {
	for sectors, want := range map[int]int{math.MinInt: 0, math.MinInt + 3: 0, -1: 0, 0: 0, 3: 0, 4: 0, 11: 0, 12: 1, 19: 1, 20: 2, 30: 3, 4091: 510, 4092: 511, 4096: 511, 4097: 511, 1 << 20: 511, math.MaxInt: 511} {
		if got := space.Plots(sectors); got != want {
			t.Error(sectors, got, want)
		}
	}
}

func TestP6_1Sector(t *testing.T) {
	for plot := range api.MaxPlots {
		for i := range 8 {
			if at, e := space.Sector(plot, i); e != api.OK || at != 4+8*plot+i {
				t.Fatal(plot, i, at, e)
			}
		}
	}
	for _, x := range [][2]int{{-1, 0}, {511, 0}, {0, -1}, {0, 8}, {math.MaxInt, 0}, {math.MinInt, 0}, {0, math.MaxInt}, {0, math.MinInt}} {
		if at, e := space.Sector(x[0], x[1]); e != api.ErrRange || at != 0 {
			t.Error(x, at, e)
		}
	}
}

func TestP6_2New(t *testing.T) {
	for _, n := range []int{math.MinInt, -1, 4097, math.MaxInt} {
		if m, e := space.New(n); e != api.ErrArg || m != nil {
			t.Error(n, e)
		}
	}
	for n, plots := range map[int]int{0: 0, 4: 0, 12: 1, 30: 3, 4096: 511} {
		m := made(t, n)
		if m.Len() != plots || m.Free() != plots || len(m.Taken()) > 0 {
			t.Error(n, m.Len(), m.Free())
		}
	}
}

func TestP6_2Taken(t *testing.T) {
	m := made(t, 4096)
	m.Claim(api.Pair{A: 510, B: 3}, api.Pair{A: 64, B: 63}, api.Pair{A: 0, B: 127})
	if !slices.Equal(m.Taken(), []int{0, 3, 63, 64, 127, 510}) || m.Free() != 505 || m.Len() != 511 {
		t.Error(m.Taken(), m.Free())
	}
	l := m.Taken()
	l[0] = 7
	if m.Taken()[0] != 0 {
		t.Error("what is told is one's own")
	}
}

func TestP6_3Claim(t *testing.T) {
	for _, x := range []struct {
		l []api.Pair
		e api.Errno
	}{
		{nil, api.OK},
		{[]api.Pair{{A: 2, B: 9}}, api.OK},
		{[]api.Pair{{A: 9, B: 2}, {A: 0, B: 1}}, api.OK},
		{[]api.Pair{{A: -1, B: 5}}, api.ErrRange},
		{[]api.Pair{{A: 10, B: 5}}, api.ErrRange},
		{[]api.Pair{{A: 0, B: 10}}, api.ErrRange},
		{[]api.Pair{{A: 0, B: math.MinInt}}, api.ErrRange},
		{[]api.Pair{{A: math.MaxInt, B: 0}}, api.ErrRange},
		{[]api.Pair{{A: 5, B: -1}}, api.ErrTaken},
		{[]api.Pair{{A: -1, B: 5}}, api.ErrRange},
		{[]api.Pair{{A: 0, B: 5}}, api.ErrTaken},
		{[]api.Pair{{A: 0, B: 0}}, api.ErrTaken},
		{[]api.Pair{{A: 0, B: 1}, {A: 2, B: 1}}, api.ErrTaken},
		{[]api.Pair{{A: 0, B: 1}, {A: 1, B: 99}}, api.ErrTaken},
		{[]api.Pair{{A: 0, B: 99}, {A: 0, B: 1}}, api.ErrRange},
	} {
		m := made(t, 84)
		m.Claim(api.Pair{A: 5, B: 6})
		if e := m.Claim(x.l...); e != x.e {
			t.Error(x.l, e)
		}
		want := []int{5, 6}
		for _, p := range x.l {
			if x.e == api.OK {
				want = append(want, p.A, p.B)
			}
		}
		slices.Sort(want)
		if !slices.Equal(m.Taken(), want) || m.Free() != 10-len(want) {
			t.Error(x.l, m.Taken())
		}
	}
}

func TestP6_3Give(t *testing.T) {
	for _, x := range []struct {
		l    []api.Pair
		e    api.Errno
		want []int
	}{
		{nil, api.OK, []int{2, 3, 5, 6}},
		{[]api.Pair{{A: 2, B: 6}}, api.OK, []int{3, 5}},
		{[]api.Pair{{A: 5, B: 6}, {A: 3, B: 2}}, api.OK, nil},
		{[]api.Pair{{A: 2, B: 10}}, api.ErrRange, []int{2, 3, 5, 6}},
		{[]api.Pair{{A: -1, B: 0}}, api.ErrRange, []int{2, 3, 5, 6}},
		{[]api.Pair{{A: 0, B: -1}}, api.ErrFree, []int{2, 3, 5, 6}},
		{[]api.Pair{{A: 2, B: 4}}, api.ErrFree, []int{2, 3, 5, 6}},
		{[]api.Pair{{A: 2, B: 2}}, api.ErrFree, []int{2, 3, 5, 6}},
		{[]api.Pair{{A: 2, B: 3}, {A: 5, B: 3}}, api.ErrFree, []int{2, 3, 5, 6}},
		{[]api.Pair{{A: 2, B: 3}, {A: 5, B: math.MaxInt}}, api.ErrRange, []int{2, 3, 5, 6}},
	} {
		m := made(t, 84)
		m.Claim(api.Pair{A: 5, B: 6}, api.Pair{A: 2, B: 3})
		if e := m.Give(x.l...); e != x.e || !slices.Equal(m.Taken(), x.want) {
			t.Error(x.l, e, m.Taken())
		}
	}
}

func TestP6_4Take(t *testing.T) {
	m := made(t, 30)
	if l, e := m.Take(1); e != api.OK || !slices.Equal(l, []api.Pair{{A: 0, B: 1}}) {
		t.Error(l, e)
	}
	if l, e := m.Take(1); e != api.ErrSpace || len(l) > 0 {
		t.Error(l, e)
	}
	if m.Give(api.Pair{A: 0, B: 1}) != api.OK || m.Claim(api.Pair{A: 2, B: 0}) != api.OK || !slices.Equal(m.Taken(), []int{0, 2}) {
		t.Error(m.Taken())
	}
	if l, e := m.Take(0); e != api.OK || len(l) > 0 || m.Free() != 1 {
		t.Error(l, e)
	}
	all := made(t, 4+8*6)
	if l, e := all.Take(3); e != api.OK || !slices.Equal(l, []api.Pair{{A: 0, B: 1}, {A: 2, B: 3}, {A: 4, B: 5}}) || all.Free() != 0 {
		t.Error("all that are free", l, e)
	}
	if l, e := all.Take(0); e != api.OK || len(l) > 0 {
		t.Error(l, e)
	}
	m = made(t, 4096)
	for _, n := range []int{math.MinInt, -1, 65, math.MaxInt} {
		if l, e := m.Take(n); e != api.ErrArg || len(l) > 0 {
			t.Error(n, e)
		}
	}
	if _, e := made(t, 0).Take(65); e != api.ErrArg {
		t.Error("ErrArg is told first", e)
	}
	m.Claim(api.Pair{A: 0, B: 3}, api.Pair{A: 5, B: 6})
	if l, e := m.Take(3); e != api.OK || !slices.Equal(l, []api.Pair{{A: 1, B: 2}, {A: 4, B: 7}, {A: 8, B: 9}}) {
		t.Error(l, e)
	}
	if l, e := m.Take(64); e != api.OK || len(l) != 64 || l[0] != (api.Pair{A: 10, B: 11}) || l[63] != (api.Pair{A: 136, B: 137}) {
		t.Error(l, e)
	}
	for m.Free() >= 2*64 {
		m.Take(64)
	}
	if n := m.Free() / 2; m.Free() > 0 {
		if _, e := m.Take(n + 1); e != api.ErrSpace {
			t.Error(e)
		}
		if l, e := m.Take(n); e != api.OK || len(l) != n || m.Free() > 1 {
			t.Error(e, m.Free())
		}
	}
}

func TestP6_5Fork(t *testing.T) {
	m := made(t, 84)
	m.Take(1)
	o := m.Fork()
	if o == m || !slices.Equal(o.Taken(), m.Taken()) || o.Len() != 10 {
		t.Error("a fork")
	}
	o.Take(2)
	m.Give(api.Pair{A: 0, B: 1})
	if len(m.Taken()) != 0 || !slices.Equal(o.Taken(), []int{0, 1, 2, 3, 4, 5}) {
		t.Error(m.Taken(), o.Taken())
	}
}

func TestRulesNobodyMadeIt(t *testing.T) {
	for _, m := range []*space.Map{nil, {}} {
		if m.Claim() != api.ErrNil || m.Claim(api.Pair{A: -1}) != api.ErrNil || m.Give() != api.ErrNil || m.Give(api.Pair{}) != api.ErrNil {
			t.Error("ErrNil")
		}
		if l, e := m.Take(0); e != api.ErrNil || len(l) > 0 {
			t.Error(e)
		}
		if _, e := m.Take(-1); e != api.ErrNil {
			t.Error(e)
		}
		if m.Free() != 0 || m.Len() != 0 || len(m.Taken()) > 0 || m.Fork() != nil {
			t.Error("zero values")
		}
	}
}

func TestP6_6EachOnce(t *testing.T) {
	r := rand.New(rand.NewPCG(6, 6))
	for range 50 {
		m := made(t, 12+r.IntN(1000))
		owned := map[int]int{}
		var held []api.Pair
		for range 200 {
			if len(held) > 0 && r.IntN(3) == 0 {
				i := r.IntN(len(held))
				if m.Give(held[i]) != api.OK {
					t.Fatal("give")
				}
				delete(owned, held[i].A)
				delete(owned, held[i].B)
				held = slices.Delete(held, i, i+1)
				continue
			}
			l, e := m.Take(r.IntN(6))
			if e != api.OK {
				continue
			}
			for _, p := range l {
				if owned[p.A] > 0 || owned[p.B] > 0 || p.A == p.B {
					t.Fatal("taken twice", p)
				}
				owned[p.A], owned[p.B] = 1, 1
			}
			held = append(held, l...)
		}
		if len(m.Taken()) != len(owned) || m.Free() != m.Len()-len(owned) {
			t.Fatal(m.Taken(), owned)
		}
	}
}

func TestP6_7NoOrder(t *testing.T) {
	r := rand.New(rand.NewPCG(6, 7))
	for range 200 {
		plots := r.Perm(100)
		var l []api.Pair
		for i := range 20 {
			l = append(l, api.Pair{A: plots[2*i], B: plots[2*i+1]})
		}
		a, b := made(t, 900), made(t, 900)
		a.Claim(l...)
		r.Shuffle(len(l), func(i, j int) { l[i], l[j] = l[j], l[i] })
		for _, p := range l {
			b.Claim(api.Pair{A: p.B, B: p.A})
		}
		one, _ := a.Take(9)
		two, _ := b.Take(9)
		if !slices.Equal(a.Taken(), b.Taken()) || !slices.Equal(one, two) {
			t.Fatal("order")
		}
	}
}

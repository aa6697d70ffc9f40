package books_test

import (
	"math"
	"math/rand/v2"
	"slices"
	"strings"
	"testing"

	"lien/api"
	"lien/books"
)

const (
	top  = api.MaxTotal
	most = 1 << 60
)

// line is one.
func line(kind api.LineKind, key string, n int) api.Line { return api.Line{Kind: kind, Key: key, N: n} }

// tot is a total.
func tot(key string, free, held, out int) api.Total {
	return api.Total{Key: key, Free: free, Held: held, Out: out}
}

// wrong are lines that may not be.
func wrong() []api.Line {
	l := []api.Line{{}, line(api.LGrant, "", 1), line(api.LGrant, strings.Repeat("n", 17), 1)}
	for _, n := range []int{math.MinInt, -1, 0, top + 1, math.MaxInt} {
		l = append(l, line(api.LGrant, "a", n), line(api.LAcked, "a", n))
	}
	for _, k := range []api.LineKind{math.MinInt, -1, 0, 9, math.MaxInt} {
		l = append(l, line(k, "a", 1))
	}
	return l
}

// wrongTotals are totals that may not be.
func wrongTotals() [][]api.Total {
	l := [][]api.Total{{tot("", 1, 1, 1)}, {tot(strings.Repeat("n", 17), 1, 1, 1)}, {tot("a", 1, 1, 1), tot("a", 1, 1, 1)}, {tot("b", 1, 1, 1), tot("a", 1, 1, 1)}, {tot("a", top, 1, 0)}, {tot("a", 1, top, 0)}, {tot("a", 0, 0, most+1)}, {tot("a", math.MaxInt, math.MaxInt, 0)}, {tot("a", 0, 0, 0), tot("b", 0, 0, -1)}}
	for _, n := range []int{math.MinInt, -1, math.MaxInt} {
		l = append(l, []api.Total{tot("a", n, 0, 0)}, []api.Total{tot("a", 0, n, 0)}, []api.Total{tot("a", 0, 0, n)})
	}
	return append(l, []api.Total{tot("a", top+1, 0, 0)}, []api.Total{tot("a", 0, top+1, 0)})
}

func TestP23_1Check(t *testing.T) {
	for k := api.LGrant; k <= api.LCredit; k++ {
		for _, l := range []api.Line{line(k, "a", 1), line(k, strings.Repeat("\x00", 16), top)} {
			if books.Check(l) != api.OK {
				t.Error(l)
			}
		}
	}
	for _, l := range wrong() {
		if books.Check(l) != api.ErrBooks {
			t.Error(l)
		}
	}
	for _, x := range [][]api.Total{nil, {}, {tot("a", 0, 0, 0)}, {tot("a", top, 0, most), tot("a\x00", 0, top, 0), tot("b", top/2, top/2, 5)}} {
		if books.CheckTotals(x) != api.OK {
			t.Error(x)
		}
	}
	for _, x := range wrongTotals() {
		if books.CheckTotals(x) != api.ErrBooks {
			t.Error(x)
		}
	}
}

func TestP23_2Add(t *testing.T) {
	for _, x := range []struct {
		t    api.Total
		l    api.Line
		want api.Total
		e    api.Errno
	}{
		{tot("a", 5, 3, 2), line(api.LGrant, "a", 4), tot("a", 9, 3, 2), api.OK}, {tot("a", 5, 3, 2), line(api.LCredit, "a", 4), tot("a", 9, 3, 2), api.OK}, {tot("a", 5, 3, 2), line(api.LSpend, "a", 5), tot("a", 0, 3, 2), api.OK}, {tot("a", 5, 3, 2), line(api.LHold, "a", 5), tot("a", 0, 8, 2), api.OK},
		{tot("a", 5, 3, 2), line(api.LConfirm, "a", 3), tot("a", 5, 0, 2), api.OK}, {tot("a", 5, 3, 2), line(api.LRelease, "a", 3), tot("a", 8, 0, 2), api.OK}, {tot("a", 5, 3, 2), line(api.LSend, "a", 5), tot("a", 0, 3, 7), api.OK}, {tot("a", 5, 3, 2), line(api.LAcked, "a", 2), tot("a", 5, 3, 0), api.OK},
		{tot("a", 5, 3, 2), line(api.LSpend, "a", 6), api.Total{}, api.ErrShort}, {tot("a", 5, 3, 2), line(api.LHold, "a", 6), api.Total{}, api.ErrShort}, {tot("a", 5, 3, 2), line(api.LConfirm, "a", 4), api.Total{}, api.ErrShort}, {tot("a", 5, 3, 2), line(api.LRelease, "a", 4), api.Total{}, api.ErrShort}, {tot("a", 5, 3, 2), line(api.LSend, "a", 6), api.Total{}, api.ErrShort}, {tot("a", 5, 3, 2), line(api.LAcked, "a", 3), api.Total{}, api.ErrShort},
		{tot("a", top-3, 3, 0), line(api.LGrant, "a", 1), api.Total{}, api.ErrOver}, {tot("a", top-4, 3, 0), line(api.LGrant, "a", 1), tot("a", top-3, 3, 0), api.OK}, {tot("a", 0, top, 0), line(api.LCredit, "a", top), api.Total{}, api.ErrOver}, {tot("a", 1, 0, most), line(api.LSend, "a", 1), api.Total{}, api.ErrOver}, {tot("a", 1, 0, most-1), line(api.LSend, "a", 1), tot("a", 0, 0, most), api.OK},
		{tot("a", 0, 0, most), line(api.LSend, "a", 1), api.Total{}, api.ErrShort}, {tot("a", 0, top, 0), line(api.LRelease, "a", top), tot("a", top, 0, 0), api.OK}, {tot("a", top, 0, 0), line(api.LHold, "a", top), tot("a", 0, top, 0), api.OK}, {tot("a", top-1, 1, 3), line(api.LSpend, "a", 1), tot("a", top-2, 1, 3), api.OK},
	} {
		for _, others := range [][2][]api.Total{{nil, nil}, {{tot("A", 1, 2, 3)}, {tot("aa", top, 0, most), tot("b", 0, 0, 0)}}} {
			got, e := books.Add(slices.Concat(others[0], []api.Total{x.t}, others[1]), x.l)
			want := slices.Concat(others[0], []api.Total{x.want}, others[1])
			if e != x.e || e == api.OK && !slices.Equal(got, want) || e != api.OK && len(got) > 0 {
				t.Error(x, got, e)
			}
		}
	}
}

func TestP23_2AddOfAnotherKey(t *testing.T) {
	b := []api.Total{tot("b", 1, 1, 1), tot("d", 0, 0, 0)}
	for key, at := range map[string]int{"a": 0, "c": 1, "e": 2} {
		got, e := books.Add(b, line(api.LGrant, key, 5))
		if e != api.OK || !slices.Equal(got, slices.Insert(slices.Clone(b), at, tot(key, 5, 0, 0))) {
			t.Error(got, e)
		}
		for _, k := range []api.LineKind{api.LSpend, api.LHold, api.LConfirm, api.LRelease, api.LSend, api.LAcked} {
			if got, e := books.Add(b, line(k, key, 1)); e != api.ErrShort || len(got) > 0 {
				t.Error(k, e)
			}
		}
	}
	for _, l := range wrong() {
		if got, e := books.Add(b, l); e != api.ErrBooks || len(got) > 0 {
			t.Error(l, e)
		}
	}
	for _, x := range wrongTotals() {
		if got, e := books.Add(x, line(api.LGrant, "z", 1)); e != api.ErrBooks || len(got) > 0 {
			t.Error(x, e)
		}
	}
	if got, _ := books.Add([]api.Total{tot("a", 3, 0, 0)}, line(api.LSpend, "a", 3)); !slices.Equal(got, []api.Total{tot("a", 0, 0, 0)}) {
		t.Error("one of zeros stays", got)
	}
}

func TestP23_2Sum(t *testing.T) {
	if got, n, e := books.Sum(); e != api.OK || n != 0 || len(got) > 0 {
		t.Error(got, n, e)
	}
	l := []api.Line{line(api.LGrant, "a", 5), line(api.LHold, "a", 2), line(api.LSend, "a", 1)}
	if got, n, e := books.Sum(l...); e != api.OK || n != 0 || !slices.Equal(got, []api.Total{tot("a", 2, 2, 1)}) {
		t.Error(got, n, e)
	}
	for _, x := range wrong() {
		if got, n, e := books.Sum(append(slices.Clone(l), x, x)...); e != api.ErrBooks || n != 3 || len(got) > 0 {
			t.Error(x, n, e)
		}
	}
	for _, x := range []struct {
		l api.Line
		e api.Errno
	}{{line(api.LSpend, "a", 3), api.ErrShort}, {line(api.LConfirm, "b", 1), api.ErrShort}, {line(api.LGrant, "a", top-3), api.ErrOver}} {
		if got, n, e := books.Sum(append(slices.Clone(l), x.l, api.Line{})...); e != x.e || n != 3 || len(got) > 0 {
			t.Error(x, n, e)
		}
	}
}

// some are lines by chance, most of which can be put in.
func some(r *rand.Rand, keys string) []api.Line {
	var l []api.Line
	var sofar []api.Total
	for range r.IntN(60) {
		x := line(api.LineKind(1+r.IntN(8)), keys[r.IntN(len(keys)):][:1], 1+r.IntN(1<<r.IntN(51)))
		if r.IntN(2) == 0 {
			x.Kind, x.N = api.LGrant, 1+r.IntN(1<<r.IntN(47))
		}
		if next, e := books.Add(sofar, x); e == api.OK {
			l, sofar = append(l, x), next
		} else if e == api.ErrBooks {
			panic(x)
		}
	}
	return l
}

func TestP23_2SumIsAddOneByOne(t *testing.T) {
	r := rand.New(rand.NewPCG(23, 2))
	for range 500 {
		l := some(r, "abcd")
		var want []api.Total
		for _, x := range l {
			want, _ = books.Add(want, x)
		}
		if got, n, e := books.Sum(l...); e != api.OK || n != 0 || !slices.Equal(got, want) || books.CheckTotals(got) != api.OK {
			t.Fatal(got, want, e)
		}
	}
}

func TestP23_3Flow(t *testing.T) {
	l := []api.Line{line(api.LGrant, "a", 1), line(api.LCredit, "a", 10), line(api.LSpend, "a", 100), line(api.LConfirm, "a", 1000), line(api.LAcked, "a", 10000), line(api.LHold, "a", 7), line(api.LRelease, "a", 7), line(api.LSend, "a", 7), line(api.LGrant, "b", 7), line(api.LSpend, "b", 9)}
	l = append(l, wrong()...)
	if came, went := books.Flow("a", l...); came != 11 || went != 11100 {
		t.Error(came, went)
	}
	if came, went := books.Flow("b", l...); came != 7 || went != 9 {
		t.Error(came, went)
	}
	for _, key := range []string{"", "c", strings.Repeat("n", 17)} {
		if came, went := books.Flow(key, l...); came != 0 || went != 0 {
			t.Error(key, came, went)
		}
	}
	for _, x := range []struct{ n, want int }{{1023, 1023 << 50}, {1024, most}, {1025, most}, {3000, most}} {
		in := slices.Repeat([]api.Line{line(api.LGrant, "a", top)}, x.n)
		out := slices.Repeat([]api.Line{line(api.LAcked, "a", top)}, x.n)
		if came, went := books.Flow("a", append(in, out...)...); came != x.want || went != x.want {
			t.Error(x, came, went)
		}
	}
}

func TestP23_3Same(t *testing.T) {
	a := []api.Total{tot("a", 1, 2, 3), tot("b", 4, 5, 6)}
	for i, x := range []struct {
		b    []api.Total
		want bool
	}{
		{slices.Clone(a), true}, {[]api.Total{tot("", 0, 0, 0), a[0], tot("aa", 0, 0, 0), a[1], tot("b", 0, 0, 0)}, true}, {a[:1], false}, {nil, false}, {[]api.Total{a[0], tot("b", 4, 5, 7)}, false}, {[]api.Total{a[0], tot("b", 4, 6, 6)}, false}, {[]api.Total{a[0], tot("b", 5, 5, 6)}, false}, {[]api.Total{a[0], tot("c", 4, 5, 6)}, false}, {append(slices.Clone(a), tot("c", -1, 0, 0)), false}, {append(slices.Clone(a), tot("c", 0, 0, 1)), false},
	} {
		if books.Same(a, x.b) != x.want || books.Same(x.b, a) != x.want {
			t.Error(i)
		}
	}
	if !books.Same(nil, nil) || !books.Same(nil, []api.Total{tot("q", 0, 0, 0)}) || !books.Same([]api.Total{tot("q", 0, 0, 0)}, []api.Total{tot("p", 0, 0, 0)}) {
		t.Error("nothing")
	}
}

func TestP23_4NothingIsMadeOrLost(t *testing.T) {
	r := rand.New(rand.NewPCG(23, 4))
	for range 1000 {
		l := some(r, "abc")
		got, _, _ := books.Sum(l...)
		for _, key := range []string{"a", "b", "c"} {
			came, went := books.Flow(key, l...)
			has := 0
			for _, x := range got {
				if x.Key == key {
					has = x.Free + x.Held + x.Out
				}
			}
			if has != came-went {
				t.Fatal(key, has, came, went)
			}
		}
	}
}

func TestP23_5Order(t *testing.T) {
	r := rand.New(rand.NewPCG(23, 5))
	for range 500 {
		a, b := some(r, "ac"), some(r, "bd")
		var mixed []api.Line
		x, y := a, b
		for len(x)+len(y) > 0 {
			if len(y) == 0 || len(x) > 0 && r.IntN(2) == 0 {
				mixed, x = append(mixed, x[0]), x[1:]
			} else {
				mixed, y = append(mixed, y[0]), y[1:]
			}
		}
		one, _, e := books.Sum(append(slices.Clone(a), b...)...)
		two, _, e2 := books.Sum(mixed...)
		if e != api.OK || e2 != api.OK || !slices.Equal(one, two) {
			t.Fatal(one, two)
		}
	}
}

func TestP23_6ThereAndBack(t *testing.T) {
	r := rand.New(rand.NewPCG(23, 6))
	for range 2000 {
		was, _, _ := books.Sum(some(r, "ab")...)
		n := 1 + r.IntN(1<<r.IntN(50))
		for _, k := range [][2]api.LineKind{{api.LHold, api.LRelease}, {api.LGrant, api.LSpend}, {api.LCredit, api.LSpend}} {
			mid, e := books.Add(was, line(k[0], "a", n))
			if e != api.OK {
				continue
			}
			if got, e := books.Add(mid, line(k[1], "a", n)); e != api.OK || !books.Same(got, was) {
				t.Fatal(was, n, got)
			}
		}
	}
}

func TestP23_7Own(t *testing.T) {
	in := []api.Total{tot("a", 1, 2, 3), tot("b", 1, 2, 3)}
	was := slices.Clone(in)
	out, _ := books.Add(in, line(api.LGrant, "a", 1))
	out[1].Free = 99
	out[0].Free = 98
	if !slices.Equal(in, was) {
		t.Error("an argument is changed, or shared")
	}
	in[1].Held = 77
	if out[1].Held != 2 {
		t.Error("an answer is changed")
	}
}

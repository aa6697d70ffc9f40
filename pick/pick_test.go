package pick_test

import (
	"math"
	"math/rand/v2"
	"slices"
	"testing"

	"lien/api"
	"lien/edit"
	"lien/pick"
)

// tab is a table of an ID, a level, a range.
func tab(id, level int, low, high string) api.Table {
	return api.Table{Place: api.Place{ID: id, Epoch: 1}, Level: level, Low: low, High: high, Count: 1}
}

// version is one of some tables.
func version(l ...api.Table) api.Version { return api.Version{Tables: l} }

// many are n tables of a level.
func many(level, n int) []api.Table {
	var l []api.Table
	for i := range n {
		l = append(l, tab(100*level+i, level, string([]byte{byte('a' + i)}), string([]byte{byte('a' + i)})))
	}
	return l
}

func TestP17_1Limit(t *testing.T) {
	for level, want := range map[int]int{math.MinInt: -1, -1: -1, 0: 3, 1: 4, 2: 8, 3: -1, 4: -1, math.MaxInt: -1} {
		if got := pick.Limit(level); got != want {
			t.Error(level, got)
		}
	}
}

func TestP17_1Full(t *testing.T) {
	for n := range 12 {
		for level, limit := range map[int]int{-1: 99, 0: 3, 1: 4, 2: 8, 3: 99, 4: 99, math.MinInt: 99, math.MaxInt: 99} {
			got := pick.Full(version(many(level, n)...))
			if n > limit && !slices.Equal(got, []int{level}) || n <= limit && len(got) > 0 {
				t.Error(n, level, got)
			}
		}
	}
	if got := pick.Full(version(slices.Concat(many(2, 9), many(0, 4), many(3, 50), many(1, 5))...)); !slices.Equal(got, []int{0, 1, 2}) {
		t.Error(got)
	}
	if len(pick.Full(api.Version{})) > 0 {
		t.Error("nothing")
	}
}

func TestP17_1Overlap(t *testing.T) {
	v := version(tab(9, 1, "c", "e"), tab(3, 1, "f", "f"), tab(5, 2, "a", "z"), tab(1, 1, "x", "y"), tab(4, 1, "z", "a"), tab(9, 1, "d", "d"), tab(2, -7, "d", "d"))
	for _, x := range []struct {
		level     int
		low, high string
		want      []int
	}{
		{1, "a", "b", nil}, {1, "a", "c", []int{9}}, {1, "e", "e", []int{9}}, {1, "ea", "ez", nil}, {1, "d", "f", []int{3, 9, 9}}, {1, "a", "zz", []int{1, 3, 4, 9, 9}}, {1, "y", "y", []int{1}}, {1, "ya", "yb", nil},
		{2, "d", "d", []int{5}}, {0, "a", "z", nil}, {-7, "d", "e", []int{2}}, {math.MaxInt, "", "", nil}, {1, "", "", nil}, {1, "f", "d", nil}, {1, "e", "c", []int{9}}, {1, "d", "d", []int{9, 9}},
	} {
		if got := pick.Overlap(v, x.level, x.low, x.high); !slices.Equal(got, x.want) {
			t.Error(x, got)
		}
	}
}

// picks tells whether the job of tables is just this.
func picks(t *testing.T, level int, in, over []int, l ...api.Table) {
	t.Helper()
	j, ok := pick.Pick(version(l...))
	if !ok || j.Level != level || !slices.Equal(j.In, in) || !slices.Equal(j.Over, over) {
		t.Error(j, ok)
	}
}

func TestP17_2Pick(t *testing.T) {
	for _, l := range [][]api.Table{nil, many(0, 3), many(1, 4), many(2, 8), many(3, 60), many(-1, 60), many(9, 60)} {
		if j, ok := pick.Pick(version(l...)); ok || j.Level != 0 || len(j.In)+len(j.Over) > 0 {
			t.Error(j, ok)
		}
	}
	picks(t, 0, []int{0, 1, 2, 3}, nil, many(0, 4)...)
	zero := []api.Table{tab(8, 0, "m", "p"), tab(2, 0, "d", "f"), tab(5, 0, "n", "n"), tab(3, 0, "e", "e")}
	one := []api.Table{tab(20, 1, "a", "c"), tab(12, 1, "p", "q"), tab(17, 1, "cz", "d"), tab(18, 1, "g", "h"), tab(19, 1, "pa", "z")}
	picks(t, 0, []int{2, 3, 5, 8}, []int{12, 17, 18}, append(slices.Clone(zero), one...)...)
	two := []api.Table{tab(30, 2, "b", "b"), tab(31, 2, "bb", "cc"), tab(33, 2, "c", "c"), tab(32, 2, "A", "a"), tab(34, 2, "d", "d"), tab(35, 0, "a", "b"), tab(36, 3, "a", "z")}
	picks(t, 1, []int{20}, []int{30, 31, 32, 33}, append(slices.Clone(one), two...)...)
	picks(t, 1, []int{7}, nil, tab(9, 1, "b", "c"), tab(7, 1, "a", "c"), tab(8, 1, "a", "z"), tab(11, 1, "c", "c"), tab(10, 1, "d", "d"), tab(7, 1, "a", "q"))
	picks(t, 1, []int{7}, []int{40}, tab(9, 1, "b", "c"), tab(7, 1, "a", "c"), tab(8, 1, "a", "z"), tab(11, 1, "c", "c"), tab(10, 1, "d", "d"), tab(7, 1, "a", "q"), tab(41, 2, "d", "d"), tab(40, 2, "c", "d"))
	picks(t, 2, []int{200}, []int{5}, append(many(2, 9), tab(5, 3, "a", "b"), tab(6, 3, "b", "b"))...)
	picks(t, 0, []int{0, 1, 2, 3}, nil, append(many(2, 9), many(0, 4)...)...)
	picks(t, 1, []int{100}, []int{200}, append(many(2, 9), many(1, 5)...)...)
}

func TestP17_3Bottom(t *testing.T) {
	l := []api.Table{tab(1, 0, "c", "e"), tab(2, 0, "d", "f"), tab(3, 1, "f", "h"), tab(4, 2, "b", "b"), tab(5, 2, "i", "k"), tab(6, 3, "h", "h"), tab(7, 3, "m", "n"), tab(8, 1, "a", "z"), tab(9, 99, "x", "y")}
	for i, x := range []struct {
		j    api.Job
		want bool
	}{
		{api.Job{}, true},
		{api.Job{In: []int{77}, Over: []int{78}}, true},
		{api.Job{In: []int{1, 2}}, true},
		{api.Job{In: []int{1, 2}, Over: []int{3}}, false},
		{api.Job{In: []int{3}}, false},
		{api.Job{Level: 1, In: []int{3}}, false},
		{api.Job{Level: 2, In: []int{3}}, true},
		{api.Job{Level: 0, In: []int{4}}, false},
		{api.Job{Level: 1, In: []int{4}}, true},
		{api.Job{Level: 1, In: []int{4, 7}}, false},
		{api.Job{Level: 2, In: []int{4}, Over: []int{5, 6}}, true},
		{api.Job{Level: 1, In: []int{4}, Over: []int{5}}, false},
		{api.Job{Level: 97, In: []int{8}}, false},
		{api.Job{Level: 98, In: []int{8}}, true},
		{api.Job{Level: 99, In: []int{8}}, true},
		{api.Job{Level: math.MaxInt, In: []int{8}}, true},
		{api.Job{Level: math.MinInt, In: []int{8}}, false},
		{api.Job{Level: -1, In: []int{1}}, false},
		{api.Job{Level: 2, Over: []int{9}}, false},
	} {
		if got := pick.Bottom(version(l...), x.j); got != x.want {
			t.Error(i, x.j, got)
		}
	}
	odd := version(tab(1, math.MinInt, "a", "b"), tab(2, math.MinInt+1, "a", "b"))
	if !pick.Bottom(odd, api.Job{Level: math.MinInt, In: []int{1}}) || !pick.Bottom(odd, api.Job{Level: math.MaxInt, In: []int{1}}) {
		t.Error("levels at the edges")
	}
	if pick.Bottom(version(tab(1, math.MinInt, "a", "b"), tab(2, math.MinInt+2, "a", "b")), api.Job{Level: math.MinInt, In: []int{1}}) {
		t.Error("levels at the edges")
	}
}

func TestP17_3Bound(t *testing.T) {
	count := func(level, n int) api.Table {
		x := tab(1, level, "a", "b")
		x.Count = n
		return x
	}
	for i, x := range []struct {
		l    []api.Table
		want int
	}{
		{nil, 1}, {[]api.Table{count(0, 5)}, 16}, {[]api.Table{count(1, 5)}, 11}, {[]api.Table{count(2, 5)}, 6}, {[]api.Table{count(3, 5)}, 1}, {[]api.Table{count(4, 5), count(-1, 5), count(math.MinInt, 5), count(math.MaxInt, 9)}, 1},
		{[]api.Table{count(0, 0), count(0, -1), count(0, math.MinInt), count(2, 7)}, 8}, {[]api.Table{count(0, 1), count(1, 2), count(2, 3), count(3, 4)}, 11},
		{[]api.Table{count(2, 1<<40-1)}, 1 << 40}, {[]api.Table{count(2, 1<<40-2)}, 1<<40 - 1}, {[]api.Table{count(2, 1<<40)}, 1 << 40}, {[]api.Table{count(0, math.MaxInt), count(0, math.MaxInt)}, 1 << 40}, {[]api.Table{count(3, math.MaxInt)}, 1},
		{slices.Repeat([]api.Table{count(0, 1<<39)}, 100), 1 << 40},
	} {
		if got := pick.Bound(version(x.l...)); got != x.want {
			t.Error(i, got)
		}
	}
}

// letter is a key by chance.
func letter(r *rand.Rand) string {
	return string([]byte{byte('a' + r.IntN(26)), byte('a' + r.IntN(26))})
}

// some is a version that may be, by chance.
func some(r *rand.Rand) api.Version {
	v := api.Version{Next: 1, Seq: 9}
	for range r.IntN(40) {
		a, b := letter(r), letter(r)
		x := api.Table{Place: api.Place{ID: v.Next, Epoch: 1, Pairs: []api.Pair{{A: 2 * v.Next, B: 2*v.Next + 1}}}, Size: 50, Level: r.IntN(4), Count: 1 + r.IntN(5), Low: min(a, b), High: max(a, b), Top: 1}
		if x.Level > 0 && r.IntN(3) > 0 {
			x.High = x.Low
		}
		w := v
		w.Next++
		w.Tables = append(slices.Clone(v.Tables), x)
		if edit.Check(w) == api.OK {
			v = w
		}
	}
	return v
}

// done is what a job makes of a version: of its tables' entries, or fewer, tables of the next level that lie apart, within their range.
func done(t *testing.T, r *rand.Rand, v api.Version, j api.Job) api.Version {
	w := api.Version{Next: v.Next, Seq: v.Seq}
	count, low, high := 0, "", ""
	for _, x := range v.Tables {
		if slices.Contains(j.In, x.Place.ID) || slices.Contains(j.Over, x.Place.ID) {
			count += x.Count
			if low == "" || x.Low < low {
				low = x.Low
			}
			high = max(high, x.High)
			continue
		}
		w.Tables = append(w.Tables, x)
	}
	keys := []string{low, high}
	for range 200 {
		if k := letter(r); k > low && k < high {
			keys = append(keys, k)
		}
	}
	slices.Sort(keys)
	keys = slices.Compact(keys)
	n := min(len(keys), r.IntN(count+1), 6)
	for i := range n {
		w.Tables = append(w.Tables, api.Table{Place: api.Place{ID: w.Next, Epoch: 1, Pairs: []api.Pair{{A: 2 * (w.Next % 255), B: 2*(w.Next%255) + 1}}}, Size: 50, Level: j.Level + 1, Count: max(1, count/n), Low: keys[i*len(keys)/n], High: keys[(i+1)*len(keys)/n-1], Top: 1})
		w.Next++
	}
	for i, a := range w.Tables {
		for _, b := range w.Tables[:i] {
			if a.Level > 0 && a.Level == b.Level && a.Low <= b.High && b.Low <= a.High {
				t.Fatal("they do not lie apart", j, a, b)
			}
		}
	}
	return w
}

func TestP17_4Ends(t *testing.T) {
	r := rand.New(rand.NewPCG(17, 4))
	jobs := 0
	for range 2000 {
		v := some(r)
		bound := pick.Bound(v)
		n := 0
		for {
			j, ok := pick.Pick(v)
			if !ok {
				break
			}
			if n++; n >= bound {
				t.Fatal(n, bound)
			}
			v = done(t, r, v, j)
		}
		jobs += n
		if len(pick.Full(v)) > 0 {
			t.Fatal("full")
		}
	}
	if jobs < 500 {
		t.Error(jobs)
	}
}

func TestP17_5Apart(t *testing.T) {
	r := rand.New(rand.NewPCG(17, 5))
	for range 2000 {
		v := some(r)
		j, ok := pick.Pick(v)
		if !ok {
			continue
		}
		low, high := "~", ""
		for _, x := range v.Tables {
			if slices.Contains(j.In, x.Place.ID) {
				low, high = min(low, x.Low), max(high, x.High)
			}
		}
		for _, x := range v.Tables {
			meets := x.Low <= high && x.High >= low
			named := slices.Contains(j.In, x.Place.ID) || slices.Contains(j.Over, x.Place.ID)
			if (x.Level == j.Level || x.Level == j.Level+1) && meets != named || x.Level != j.Level && x.Level != j.Level+1 && named {
				t.Fatal(j, x)
			}
		}
		done(t, r, v, j)
	}
}

func TestRulesNothingIsChanged(t *testing.T) {
	l := []api.Table{tab(9, 1, "z", "z"), tab(7, 1, "y", "y"), tab(8, 1, "x", "x"), tab(1, 1, "w", "w"), tab(2, 1, "v", "v")}
	want := slices.Clone(l)
	v := version(l...)
	pick.Pick(v)
	pick.Bottom(v, api.Job{In: []int{9, 1}})
	pick.Overlap(v, 1, "a", "zz")
	if !slices.EqualFunc(l, want, func(a, b api.Table) bool { return a.Place.ID == b.Place.ID }) {
		t.Error(l)
	}
}

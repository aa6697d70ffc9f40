package merge_test

import (
	"math"
	"math/rand/v2"
	"slices"
	"strings"
	"testing"

	"lien/api"
	"lien/merge"
)

// alike tells whether two lists of entries are, where nil and empty values are one.
func alike(a, b []api.Entry) bool {
	return slices.EqualFunc(a, b, func(x, y api.Entry) bool {
		return x.Key == y.Key && x.Seq == y.Seq && x.Del == y.Del && string(x.Val) == string(y.Val)
	})
}

// slowMerge is the chapter's words.
func slowMerge(lists ...[]api.Entry) []api.Entry {
	var out []api.Entry
	for _, l := range lists {
		for _, e := range l {
			if !slices.ContainsFunc(out, func(o api.Entry) bool { return o.Key == e.Key && o.Seq == e.Seq }) {
				out = append(out, e)
			}
		}
	}
	slices.SortFunc(out, func(a, b api.Entry) int {
		if c := strings.Compare(a.Key, b.Key); c != 0 {
			return c
		}
		if a.Seq > b.Seq {
			return -1
		}
		return 1
	})
	return out
}

// slowNewest is the chapter's words.
func slowNewest(l []api.Entry, key string, seq int) (api.Entry, bool) {
	for _, e := range slowMerge(l) {
		if e.Key == key && e.Seq <= seq {
			return e, true
		}
	}
	return api.Entry{}, false
}

// slowVisible is the chapter's words.
func slowVisible(l []api.Entry, seq int) []api.KV {
	var out []api.KV
	for _, k := range keysOf(l) {
		if e, ok := slowNewest(l, k, seq); ok && !e.Del {
			out = append(out, api.KV{Key: k, Val: e.Val})
		}
	}
	return out
}

// keysOf are the keys, rising.
func keysOf(l []api.Entry) []string {
	var keys []string
	for _, e := range l {
		keys = append(keys, e.Key)
	}
	slices.Sort(keys)
	return slices.Compact(keys)
}

// slowThin is the chapter's words.
func slowThin(l []api.Entry, snaps []int, bottom bool) []api.Entry {
	var out []api.Entry
	for _, k := range keysOf(l) {
		var stay []api.Entry
		for _, e := range slowMerge(l) {
			if e.Key != k {
				continue
			}
			for _, s := range append(slices.Clone(snaps), math.MaxInt) {
				if n, ok := slowNewest(l, k, s); ok && n.Seq == e.Seq {
					stay = append(stay, e)
					break
				}
			}
		}
		for bottom && len(stay) > 0 && stay[len(stay)-1].Del {
			stay = stay[:len(stay)-1]
		}
		out = append(out, stay...)
	}
	return out
}

// rows are rows by chance: of entries that may be or not, sorted or not.
func rows(r *rand.Rand) [][]api.Entry {
	var out [][]api.Entry
	for range r.IntN(5) {
		var l []api.Entry
		for range r.IntN(12) {
			e := api.Entry{Key: []string{"", "a", "ab", "b", "\xff"}[r.IntN(5)], Seq: r.IntN(9) - 2, Del: r.IntN(3) == 0}
			if r.IntN(40) == 0 {
				e.Seq = []int{math.MinInt, math.MaxInt}[r.IntN(2)]
			}
			e.Val = []byte(strings.Repeat("v", r.IntN(3)) + string([]byte{byte('0' + len(out)), byte('0' + len(l))}))
			l = append(l, e)
		}
		if r.IntN(2) == 0 {
			l = slowMerge(l)
		}
		out = append(out, l)
	}
	return out
}

// sameKVs tells whether keys and values are alike.
func sameKVs(a, b []api.KV) bool {
	return slices.EqualFunc(a, b, func(x, y api.KV) bool { return x.Key == y.Key && string(x.Val) == string(y.Val) })
}

// someSnaps are snaps by chance.
func someSnaps(r *rand.Rand) []int {
	var l []int
	for range r.IntN(5) {
		l = append(l, r.IntN(12)-3)
	}
	if r.IntN(20) == 0 {
		l = append(l, math.MinInt, math.MaxInt)
	}
	return l
}

func TestP14_1Merge(t *testing.T) {
	if len(merge.Merge()) > 0 || len(merge.Merge(nil, []api.Entry{})) > 0 {
		t.Error("nothing")
	}
	r := rand.New(rand.NewPCG(14, 1))
	for range 5000 {
		l := rows(r)
		if got := merge.Merge(l...); !alike(got, slowMerge(l...)) {
			t.Fatal(l, got)
		}
	}
}

func TestP14_2NewestAndVisible(t *testing.T) {
	if e, ok := merge.Newest(nil, "a", 5); ok || e.Key != "" || len(merge.Visible(nil, 5)) > 0 {
		t.Error("nothing")
	}
	r := rand.New(rand.NewPCG(14, 2))
	for range 2000 {
		l := slices.Concat(rows(r)...)
		for _, seq := range []int{math.MinInt, -3, -1, 0, 2, 4, 7, math.MaxInt} {
			for _, k := range []string{"", "a", "ab", "b", "\xff", "c"} {
				got, ok := merge.Newest(l, k, seq)
				want, is := slowNewest(l, k, seq)
				if ok != is || !alike([]api.Entry{got}, []api.Entry{want}) {
					t.Fatal(l, k, seq, got)
				}
			}
			if got := merge.Visible(l, seq); !sameKVs(got, slowVisible(l, seq)) {
				t.Fatal(l, seq, got)
			}
		}
	}
}

func TestP14_3Thin(t *testing.T) {
	l := []api.Entry{{Key: "a", Seq: 5, Del: true}, {Key: "a", Seq: 3}, {Key: "a", Seq: 1}}
	if got := merge.Thin(l, []int{3}, false); !alike(got, l[:2]) {
		t.Error(got)
	}
	if got := merge.Thin(l, nil, true); len(got) > 0 {
		t.Error(got)
	}
	if got := merge.Thin(l, []int{3}, true); !alike(got, l[:2]) {
		t.Error(got)
	}
	gone := []api.Entry{{Key: "a", Seq: 5, Del: true}, {Key: "a", Seq: 3, Del: true}, {Key: "b", Seq: 2}, {Key: "b", Seq: 1, Del: true}}
	if got := merge.Thin(gone, []int{1, 2, 3, 4}, true); !alike(got, gone[2:3]) {
		t.Error(got)
	}
	r := rand.New(rand.NewPCG(14, 3))
	for range 5000 {
		l, snaps, bottom := slices.Concat(rows(r)...), someSnaps(r), r.IntN(2) == 0
		was := slices.Clone(snaps)
		if got := merge.Thin(l, snaps, bottom); !alike(got, slowThin(l, snaps, bottom)) || !slices.Equal(snaps, was) {
			t.Fatal(l, snaps, bottom, got)
		}
	}
}

// slowSplit is the chapter's words.
func slowSplit(l []api.Entry, most int) [][]api.Entry {
	var groups, out [][]api.Entry
	for i, e := range l {
		if i > 0 && l[i-1].Key == e.Key {
			groups[len(groups)-1] = append(groups[len(groups)-1], e)
		} else {
			groups = append(groups, []api.Entry{e})
		}
	}
	size := func(l []api.Entry) int {
		n := 0
		for _, e := range l {
			n += len(e.Key) + len(e.Val) + 16
		}
		return n
	}
	for _, g := range groups {
		if n := len(out); n > 0 && size(out[n-1])+size(g) <= most {
			out[n-1] = append(out[n-1], g...)
		} else {
			out = append(out, g)
		}
	}
	return out
}

func TestP14_4Split(t *testing.T) {
	if len(merge.Split(nil, 100)) > 0 {
		t.Error("nothing")
	}
	r := rand.New(rand.NewPCG(14, 4))
	for range 3000 {
		l := slices.Concat(rows(r)...)
		for _, most := range []int{math.MinInt, -1, 0, 16, 17, 33, 34, 36, 38, 40, 54, 57, 60, 120, math.MaxInt} {
			got := merge.Split(l, most)
			if !slices.EqualFunc(got, slowSplit(l, most), alike) {
				t.Fatal(l, most, got)
			}
			for _, row := range got {
				if len(row) == 0 {
					t.Fatal("empty")
				}
			}
		}
	}
}

func TestP14_4SplitAtTheEdges(t *testing.T) {
	l := []api.Entry{{Key: "a", Seq: 2}, {Key: "a", Seq: 1}, {Key: "b", Seq: 1, Val: []byte("xy")}, {Key: "a", Seq: 9}}
	for most, want := range map[int][]int{0: {2, 1, 1}, 33: {2, 1, 1}, 34: {2, 1, 1}, 35: {2, 1, 1}, 36: {2, 2}, 52: {2, 2}, 53: {3, 1}, 69: {3, 1}, 70: {4}, 71: {4}} {
		var got []int
		for _, row := range merge.Split(l, most) {
			got = append(got, len(row))
		}
		if !slices.Equal(got, want) {
			t.Error(most, got, want)
		}
	}
}

func TestP14_5NothingSeenIsLost(t *testing.T) {
	r := rand.New(rand.NewPCG(14, 5))
	for range 2000 {
		l, snaps := slices.Concat(rows(r)...), someSnaps(r)
		thin, bottom := merge.Thin(l, snaps, false), merge.Thin(l, snaps, true)
		for _, s := range append(slices.Clone(snaps), math.MaxInt) {
			want := merge.Visible(l, s)
			if !sameKVs(merge.Visible(thin, s), want) || !sameKVs(merge.Visible(bottom, s), want) {
				t.Fatal(l, snaps, s)
			}
			for _, k := range keysOf(l) {
				a, ok := merge.Newest(l, k, s)
				b, is := merge.Newest(thin, k, s)
				if ok != is || !alike([]api.Entry{a}, []api.Entry{b}) {
					t.Fatal(l, k, s)
				}
			}
		}
	}
}

func TestP14_6PutTogether(t *testing.T) {
	r := rand.New(rand.NewPCG(14, 6))
	for range 2000 {
		l := rows(r)
		all := slices.Concat(l...)
		if got := slices.Concat(merge.Split(all, r.IntN(100))...); !alike(got, all) {
			t.Fatal("rows of Split")
		}
		n := r.IntN(len(l) + 1)
		if !alike(merge.Merge(merge.Merge(l[:n]...), merge.Merge(l[n:]...)), merge.Merge(l...)) {
			t.Fatal("merged rows")
		}
	}
}

func TestRulesOwnMemory(t *testing.T) {
	l := []api.Entry{{Key: "b", Seq: 1, Val: []byte("abc")}, {Key: "a", Seq: 1, Val: []byte("abc")}}
	a, b, c, d := merge.Merge(l, l), merge.Thin(l, nil, false), merge.Split(l, 99), merge.Visible(l, 9)
	e, _ := merge.Newest(l, "a", 1)
	a[0].Val[0], b[0].Val[0], c[0][0].Val[0], d[0].Val[0], e.Val[0] = 'x', 'x', 'x', 'x', 'x'
	if string(l[0].Val) != "abc" || string(l[1].Val) != "abc" || l[0].Key != "b" {
		t.Error("an argument is changed", l)
	}
	l[0].Val[0], l[1].Val[0] = 'q', 'q'
	if string(a[1].Val) != "abc" || string(b[1].Val) != "abc" || string(c[0][1].Val) != "abc" || string(d[1].Val) != "abc" {
		t.Error("an answer is changed by what becomes of an argument")
	}
}

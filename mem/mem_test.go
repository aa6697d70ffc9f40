package mem_test

import (
	"math"
	"math/rand/v2"
	"reflect"
	"slices"
	"strings"
	"testing"

	"lien/api"
	"lien/mem"
)

// long is a text of n bytes.
func long(n int) string { return strings.Repeat("k", n) }

func TestP10_1Check(t *testing.T) {
	for _, e := range []api.Entry{
		{Key: "a", Seq: 1}, {Key: long(64), Seq: api.MaxSeq, Val: make([]byte, 256)}, {Key: "\x00", Seq: 5, Del: true}, {Key: "a", Seq: 1, Del: true, Val: []byte{}}, {Key: "a", Seq: 2, Val: []byte{0}},
	} {
		if mem.Check(e) != api.OK {
			t.Error(e)
		}
	}
	for _, e := range wrong() {
		if mem.Check(e) != api.ErrEntry {
			t.Error(e)
		}
	}
}

// wrong are entries that may not be.
func wrong() []api.Entry {
	return []api.Entry{
		{}, {Key: "", Seq: 1}, {Key: long(65), Seq: 1}, {Key: "a"}, {Key: "a", Seq: -1}, {Key: "a", Seq: math.MinInt}, {Key: "a", Seq: api.MaxSeq + 1}, {Key: "a", Seq: math.MaxInt},
		{Key: "a", Seq: 1, Val: make([]byte, 257)}, {Key: "a", Seq: 1, Del: true, Val: []byte{0}},
	}
}

func TestP10_1Compare(t *testing.T) {
	l := []api.Entry{{Key: "", Seq: math.MinInt}, {Key: "\x00", Seq: 3}, {Key: "a", Seq: math.MaxInt}, {Key: "a", Seq: 3}, {Key: "a", Seq: 2}, {Key: "a", Seq: 0}, {Key: "a", Seq: math.MinInt}, {Key: "a\x00", Seq: 9}, {Key: "b", Seq: 9}, {Key: "\xff", Seq: 1}}
	for i, a := range l {
		for k, b := range l {
			want := 0
			if i < k {
				want = -1
			} else if i > k {
				want = 1
			}
			b.Val, b.Del = []byte("x"), true
			if got := mem.Compare(a, b); got != want {
				t.Error(a, b, got)
			}
		}
	}
}

func TestP10_2Put(t *testing.T) {
	m := mem.New()
	for _, e := range wrong() {
		if m.Put(e) != api.ErrEntry {
			t.Error(e)
		}
	}
	for _, x := range []struct {
		key string
		seq int
		e   api.Errno
	}{{"a", 3, api.OK}, {"a", 3, api.ErrSeq}, {"b", 3, api.OK}, {"c", 2, api.ErrSeq}, {"a", 2, api.ErrSeq}, {"a", 4, api.OK}, {"c", 3, api.ErrSeq}, {"b", 4, api.OK}, {"z", api.MaxSeq, api.OK}, {"z", api.MaxSeq, api.ErrSeq}, {"y", api.MaxSeq, api.OK}, {"x", api.MaxSeq - 1, api.ErrSeq}} {
		n := m.Len()
		if e := m.Put(api.Entry{Key: x.key, Seq: x.seq}); e != x.e || (m.Len() == n+1) != (e == api.OK) {
			t.Error(x, e)
		}
	}
	if m.Put(api.Entry{Key: "", Seq: 1}) != api.ErrEntry {
		t.Error("ErrEntry is told first")
	}
}

func TestRulesNobodyMadeIt(t *testing.T) {
	for _, m := range []*mem.Mem{nil, {}} {
		e, ok := m.Get("a", 9)
		if m.Put(api.Entry{Key: "a", Seq: 1}) != api.ErrNil || m.Put(api.Entry{}) != api.ErrNil || ok || !reflect.DeepEqual(e, api.Entry{}) || len(m.All()) > 0 || len(m.Range("", "")) > 0 || m.Len() != 0 || m.Bytes() != 0 || m.Fork() != nil {
			t.Error("zero values")
		}
	}
}

func TestP10_3Examples(t *testing.T) {
	m := mem.New()
	if e, ok := m.Get("a", 1); ok || !reflect.DeepEqual(e, api.Entry{}) || len(m.All()) > 0 || m.Len() != 0 || m.Bytes() != 0 {
		t.Error("nothing")
	}
	for _, e := range []api.Entry{{Key: "a", Seq: 1}, {Key: "a", Seq: 3, Val: []byte("xyz")}, {Key: "b", Seq: 3, Del: true}} {
		m.Put(e)
	}
	want := []api.Entry{{Key: "a", Seq: 3, Val: []byte("xyz")}, {Key: "a", Seq: 1}, {Key: "b", Seq: 3, Del: true}}
	if !alike(m.All(), want) || m.Len() != 3 || m.Bytes() != 3+3+48 {
		t.Error(m.All(), m.Bytes())
	}
	for _, x := range []struct {
		key       string
		seq, want int
	}{{"a", 2, 1}, {"a", 0, 0}, {"a", -5, 0}, {"a", 3, 3}, {"a", math.MaxInt, 3}, {"a", math.MinInt, 0}, {"b", 2, 0}, {"b", 3, 3}, {"", 9, 0}, {"c", 9, 0}, {long(300), 9, 0}} {
		e, ok := m.Get(x.key, x.seq)
		if ok != (x.want > 0) || e.Seq != x.want || ok && e.Key != x.key || !ok && !reflect.DeepEqual(e, api.Entry{}) {
			t.Error(x, e, ok)
		}
	}
	if m.Put(api.Entry{Key: "c", Seq: 2}) != api.ErrSeq {
		t.Error("too low")
	}
}

// alike tells whether two lists of entries are, where nil and empty values are one.
func alike(a, b []api.Entry) bool {
	return slices.EqualFunc(a, b, func(x, y api.Entry) bool {
		return x.Key == y.Key && x.Seq == y.Seq && x.Del == y.Del && string(x.Val) == string(y.Val)
	})
}

// list is what a plain list of all that was put tells.
type list []api.Entry

// span are those of some keys, sorted.
func (l list) span(low, high string) []api.Entry {
	var out []api.Entry
	for _, e := range l {
		if e.Key >= low && (high == "" || e.Key < high) {
			out = append(out, e)
		}
	}
	slices.SortFunc(out, func(a, b api.Entry) int {
		if c := strings.Compare(a.Key, b.Key); c != 0 {
			return c
		}
		return b.Seq - a.Seq
	})
	return out
}

// some is a memory, and a list, to which the same was put, by chance.
func some(r *rand.Rand, n int) (*mem.Mem, list) {
	m, l := mem.New(), list{}
	seq := 1
	for range n {
		seq += r.IntN(2)
		e := api.Entry{Key: key(r), Seq: seq, Del: r.IntN(4) == 0}
		if !e.Del {
			e.Val = []byte(long(r.IntN(5)))
		}
		if m.Put(e) == api.OK {
			l = append(l, e)
		}
	}
	return m, l
}

// key is one by chance.
func key(r *rand.Rand) string {
	b := make([]byte, 1+r.IntN(3))
	for i := range b {
		b[i] = []byte{0, 97, 98, 255}[r.IntN(4)]
	}
	return string(b)
}

func TestP10_5AsAPlainList(t *testing.T) {
	r := rand.New(rand.NewPCG(10, 5))
	for range 200 {
		m, l := some(r, r.IntN(120))
		if !alike(m.All(), l.span("", "")) || m.Len() != len(l) {
			t.Fatal("all")
		}
		bytes := 0
		for _, e := range l {
			bytes += len(e.Key) + len(e.Val) + 16
		}
		if m.Bytes() != bytes {
			t.Fatal(m.Bytes(), bytes)
		}
		for range 40 {
			low, high, k, seq := key(r), key(r), key(r), r.IntN(80)
			if r.IntN(4) == 0 {
				low = ""
			}
			if r.IntN(4) == 0 {
				high = ""
			}
			if !alike(m.Range(low, high), l.span(low, high)) {
				t.Fatal(low, high)
			}
			var want []api.Entry
			for _, e := range l.span(k, k+"\x00") {
				if e.Seq <= seq && len(want) == 0 {
					want = append(want, e)
				}
			}
			if e, ok := m.Get(k, seq); ok != (len(want) > 0) || ok && !alike([]api.Entry{e}, want) {
				t.Fatal(k, seq, e, want)
			}
		}
	}
}

func TestP10_5InOrderHoweverItComes(t *testing.T) {
	for _, step := range []int{1, 7, 4999} {
		m := mem.New()
		for i := range 5000 {
			k := i * step % 5000
			m.Put(api.Entry{Key: string([]byte{1 + byte(k/250), 1 + byte(k%250)}), Seq: i + 1})
		}
		l := m.All()
		if len(l) != 5000 || !slices.IsSortedFunc(l, mem.Compare) {
			t.Error(step, len(l))
		}
	}
}

func TestP10_4Fork(t *testing.T) {
	r := rand.New(rand.NewPCG(10, 4))
	for range 100 {
		m, l := some(r, r.IntN(60))
		o := m.Fork()
		if o == m || !alike(o.All(), l.span("", "")) || o.Len() != m.Len() || o.Bytes() != m.Bytes() {
			t.Fatal("a fork")
		}
		one, two := slices.Clone(l), slices.Clone(l)
		for i := range 30 {
			a, b := api.Entry{Key: key(r), Seq: 100 + i}, api.Entry{Key: key(r), Seq: 200 + i, Val: []byte("o")}
			if m.Put(a) != api.OK || o.Put(b) != api.OK {
				t.Fatal("put")
			}
			one, two = append(one, a), append(two, b)
		}
		if !alike(m.All(), one.span("", "")) || !alike(o.All(), two.span("", "")) || m.Len() != len(one) || o.Len() != len(two) {
			t.Fatal("a fork goes its own way")
		}
	}
}

func TestP10_6Own(t *testing.T) {
	m := mem.New()
	b := []byte("abc")
	m.Put(api.Entry{Key: "k", Seq: 1, Val: b})
	b[0] = 'z'
	o := m.Fork()
	e, _ := m.Get("k", 1)
	e.Val[0] = 'y'
	m.All()[0].Val[0] = 'x'
	m.Range("", "")[0].Val[0] = 'w'
	o.All()[0].Val[0] = 'v'
	for _, x := range []*mem.Mem{m, o} {
		if e, _ := x.Get("k", 1); string(e.Val) != "abc" {
			t.Error(e)
		}
	}
}

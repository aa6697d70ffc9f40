package block_test

import (
	"bytes"
	"encoding/binary"
	"math"
	"math/rand/v2"
	"slices"
	"strings"
	"testing"

	"lien/api"
	"lien/block"
)

// alike tells whether two lists of entries are, where nil and empty values are one.
func alike(a, b []api.Entry) bool {
	return slices.EqualFunc(a, b, func(x, y api.Entry) bool {
		return x.Key == y.Key && x.Seq == y.Seq && x.Del == y.Del && string(x.Val) == string(y.Val)
	})
}

// slow is the chapter's words: entries' bytes, however they may be; lead tells how many bytes are shared with the key ahead.
func slow(l []api.Entry, lead func(i int) int) []byte {
	var b, ends []byte
	for i, e := range l {
		n := lead(i)
		if i%8 == 0 {
			ends = binary.BigEndian.AppendUint16(ends, uint16(len(b)))
		}
		b = binary.AppendUvarint(b, uint64(n))
		b = binary.AppendUvarint(b, uint64(len(e.Key)-n))
		b = append(b, e.Key[n:]...)
		if e.Del {
			b = binary.AppendUvarint(b, uint64(2*e.Seq+1))
			continue
		}
		b = binary.AppendUvarint(b, uint64(2*e.Seq))
		b = binary.AppendUvarint(b, uint64(len(e.Val)))
		b = append(b, e.Val...)
	}
	return append(append(b, ends...), byte(len(l)))
}

// most is how many bytes each key shares, as many as it does.
func most(l []api.Entry) func(i int) int {
	return func(i int) int {
		n := 0
		for i%8 > 0 && strings.HasPrefix(l[i-1].Key, l[i].Key[:n]) {
			if n++; n > len(l[i].Key) {
				break
			}
		}
		return max(0, n-1)
	}
}

// some are a block's entries by chance.
func some(r *rand.Rand, n int) []api.Entry {
	var l []api.Entry
	for len(l) < n {
		b := make([]byte, 1+r.IntN(5))
		for i := range b {
			b[i] = []byte{0, 97, 98, 255}[r.IntN(4)]
		}
		e := api.Entry{Key: string(b), Seq: 1 + r.IntN(1<<r.IntN(41)), Del: r.IntN(4) == 0}
		if !e.Del {
			e.Val = bytes.Repeat([]byte{7}, r.IntN(6))
		}
		l = append(l, e)
	}
	sort(l)
	return slices.CompactFunc(l, func(a, b api.Entry) bool { return a.Key == b.Key && a.Seq == b.Seq })
}

// sort lays entries in order.
func sort(l []api.Entry) {
	slices.SortFunc(l, func(a, b api.Entry) int {
		if c := strings.Compare(a.Key, b.Key); c != 0 {
			return c
		}
		return b.Seq - a.Seq
	})
}

// edges are blocks' entries at the limits.
func edges() [][]api.Entry {
	var l [][]api.Entry
	for _, n := range []int{1, 7, 8, 9, 16, 17, 63, 64} {
		var same, long []api.Entry
		for i := range n {
			same = append(same, api.Entry{Key: "k", Seq: n - i, Del: i%3 == 1})
			long = append(long, api.Entry{Key: strings.Repeat("k", 63) + string([]byte{byte(i)}), Seq: api.MaxSeq, Val: make([]byte, 256)})
		}
		l = append(l, same, long)
	}
	return append(l, []api.Entry{{Key: "a", Seq: 1}, {Key: "ab", Seq: 1}, {Key: "abc", Seq: 2, Del: true}, {Key: "abd", Seq: 1}, {Key: "b", Seq: 1}})
}

// wrong are entries that make no block.
func wrong() [][]api.Entry {
	var many []api.Entry
	for i := range 65 {
		many = append(many, api.Entry{Key: string([]byte{byte(i)}), Seq: 1})
	}
	return [][]api.Entry{
		nil, many, {{}}, {{Key: "a"}}, {{Key: "a", Seq: api.MaxSeq + 1}}, {{Key: "a", Seq: -1}}, {{Key: "", Seq: 1}}, {{Key: strings.Repeat("a", 65), Seq: 1}},
		{{Key: "a", Seq: 1, Val: make([]byte, 257)}}, {{Key: "a", Seq: 1, Del: true, Val: []byte{1}}},
		{{Key: "b", Seq: 1}, {Key: "a", Seq: 1}}, {{Key: "a", Seq: 1}, {Key: "a", Seq: 2}}, {{Key: "a", Seq: 1}, {Key: "a", Seq: 1}}, {{Key: "a", Seq: 1}, {Key: "b", Seq: 0}},
	}
}

func TestP12_1Encode(t *testing.T) {
	b, e := block.Encode(api.Entry{Key: "ab", Seq: 1, Val: []byte("x")}, api.Entry{Key: "ac", Seq: 1, Del: true})
	if e != api.OK || !bytes.Equal(b, []byte{0, 2, 97, 98, 2, 1, 120, 1, 1, 99, 3, 0, 0, 2}) {
		t.Error(b, e)
	}
	r := rand.New(rand.NewPCG(12, 1))
	l := edges()
	for range 2000 {
		l = append(l, some(r, 1+r.IntN(30)))
	}
	for _, x := range l {
		if b, e := block.Encode(x...); e != api.OK || !bytes.Equal(b, slow(x, most(x))) {
			t.Fatal(x, b, e)
		}
	}
	for i, x := range wrong() {
		if b, e := block.Encode(x...); e != api.ErrBlock || len(b) > 0 {
			t.Error(i, e)
		}
	}
}

// none tells whether bytes are no block's.
func none(b []byte) bool {
	l, e := block.Decode(b)
	x, ok, e2 := block.Find(b, "a", 5)
	return e == api.ErrBlock && len(l) == 0 && e2 == api.ErrBlock && !ok && x.Key == "" && x.Seq == 0
}

func TestP12_2Decode(t *testing.T) {
	for _, l := range edges() {
		b := slow(l, most(l))
		if got, e := block.Decode(b); e != api.OK || !alike(got, l) {
			t.Error(got, e)
		}
		for _, x := range [][]byte{nil, b[1:], b[:len(b)-1], append(bytes.Clone(b), 0), append([]byte{0}, b...)} {
			if !none(x) {
				t.Error(x)
			}
		}
	}
}

func TestP12_2DecodeOfNone(t *testing.T) {
	for _, l := range wrong() {
		gone := len(l) == 1 && l[0].Del // its value is not written
		if !gone && !none(slow(l, func(int) int { return 0 })) {
			t.Error(l)
		}
	}
	l := []api.Entry{{Key: "ab", Seq: 1}, {Key: "abc", Seq: 1}}
	for n := range 3 {
		b := slow(l, func(i int) int { return i * n })
		if none(b) != (n != 2) {
			t.Error("shares as many as it does", n)
		}
	}
	b := slow(l, most(l))
	for _, x := range []struct{ at, is int }{{0, 1}, {len(b) - 1, 1}, {len(b) - 1, 3}, {len(b) - 1, 0}, {len(b) - 1, 255}, {len(b) - 2, 1}, {len(b) - 3, 1}, {1, 200}, {5, 9}} {
		y := bytes.Clone(b)
		y[x.at] = byte(x.is)
		if !none(y) {
			t.Error(x)
		}
	}
	for _, y := range []string{"\x00", "\x01", "\x00\x00\x01", "\x80\x00\x01a\x02\x00\x00\x00\x01", "\x00\x81\x00a\x02\x00\x00\x00\x01", "\x00\x01a\x82\x00\x00\x00\x00\x01", "\x00\x01a\x02\x80\x00\x00\x00\x01", "\x00\x01a\x02\x00\x00\x00\x01\x01"} {
		if !none([]byte(y)) {
			t.Errorf("%q", y)
		}
	}
}

func TestP12_2AnyBytes(t *testing.T) {
	r := rand.New(rand.NewPCG(12, 2))
	for range 20000 {
		l := some(r, 1+r.IntN(12))
		b := slow(l, most(l))
		for range 1 + r.IntN(2) {
			b[r.IntN(len(b))] = byte(r.Uint32())
		}
		got, e := block.Decode(b)
		if e == api.OK && !bytes.Equal(slow(got, most(got)), b) {
			t.Fatal(b, got)
		}
		if e != api.OK && !none(b) {
			t.Fatal(b)
		}
	}
	for range 20000 {
		b := make([]byte, r.IntN(14))
		for i := range b {
			b[i] = byte(r.IntN(5))
		}
		if got, e := block.Decode(b); e == api.OK && !bytes.Equal(slow(got, most(got)), b) {
			t.Fatal(b, got)
		}
	}
}

func TestP12_3Find(t *testing.T) {
	r := rand.New(rand.NewPCG(12, 3))
	l := edges()
	for range 50 {
		l = append(l, some(r, 1+r.IntN(40)))
	}
	for _, x := range l {
		b := slow(x, most(x))
		keys := []string{"", "a", "zzz", "\xff\xff", strings.Repeat("q", 300)}
		for _, e := range x {
			keys = append(keys, e.Key, e.Key+"\x00", e.Key[:len(e.Key)-1])
		}
		for _, k := range keys {
			for _, seq := range []int{math.MinInt, -1, 0, 1, 2, 5, 60, 1 << 20, api.MaxSeq, math.MaxInt} {
				var want []api.Entry
				for _, e := range x {
					if e.Key == k && e.Seq <= seq && len(want) == 0 {
						want = append(want, e)
					}
				}
				got, ok, e := block.Find(b, k, seq)
				if e != api.OK || ok != (len(want) > 0) || ok && !alike([]api.Entry{got}, want) || !ok && (got.Key != "" || got.Seq != 0) {
					t.Fatal(k, seq, got, want)
				}
			}
		}
	}
}

func TestP12_4ThereAndBack(t *testing.T) {
	r := rand.New(rand.NewPCG(12, 4))
	for range 3000 {
		l := some(r, 1+r.IntN(64))
		b, e := block.Encode(l...)
		got, e2 := block.Decode(b)
		again, e3 := block.Encode(got...)
		if e != api.OK || e2 != api.OK || e3 != api.OK || !alike(got, l) || !bytes.Equal(again, b) {
			t.Fatal(l)
		}
	}
}

func TestP12_5OneWay(t *testing.T) {
	r := rand.New(rand.NewPCG(12, 5))
	seen := map[string][]api.Entry{}
	for range 20000 {
		l := some(r, 1+r.IntN(3))
		b, _ := block.Encode(l...)
		if was, ok := seen[string(b)]; ok && !alike(was, l) {
			t.Fatal(was, l)
		}
		seen[string(b)] = l
	}
}

func TestRulesOwnMemory(t *testing.T) {
	l := []api.Entry{{Key: "a", Seq: 1, Val: []byte("abc")}, {Key: "b", Seq: 1, Val: []byte("abc")}}
	b, _ := block.Encode(l...)
	l[0].Val[0] = 'z'
	one, _ := block.Decode(b)
	x, _, _ := block.Find(b, "a", 1)
	b[5] = 'q'
	one[0].Val[1] = 'y'
	if string(x.Val) != "abc" || string(one[0].Val) != "ayc" || string(one[1].Val) != "abc" {
		t.Error("an answer shares memory")
	}
}

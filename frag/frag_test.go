package frag_test

import (
	"bytes"
	"math"
	"math/rand/v2"
	"slices"
	"testing"

	"lien/api"
	"lien/frag"
)

// some are n bytes by chance.
func some(r *rand.Rand, n int) []byte {
	b := make([]byte, n)
	for i := range b {
		b[i] = byte(r.Uint32())
	}
	return b
}

// slowCut is the chapter's words, byte by byte.
func slowCut(records [][]byte) [][]byte {
	var out [][]byte
	for _, r := range records {
		rest, first := r, true
		for {
			if len(out) == 0 || 108-len(out[len(out)-1]) < 3 {
				out = append(out, []byte{})
			}
			p := &out[len(out)-1]
			at := len(*p)
			*p = append(*p, 0, 0)
			for len(rest) > 0 && len(*p) < 108 {
				*p = append(*p, rest[0])
				rest = rest[1:]
				(*p)[at+1]++
			}
			kind := map[[2]bool]byte{{true, true}: 1, {true, false}: 2, {false, false}: 3, {false, true}: 4}
			(*p)[at] = kind[[2]bool{first, len(rest) == 0}]
			first = false
			if len(rest) == 0 {
				break
			}
		}
	}
	return out
}

// same tells whether two lists of bytes are alike.
func same(a, b [][]byte) bool { return slices.EqualFunc(a, b, bytes.Equal) }

// sizes are lengths of records at the edges.
func sizes() []int {
	return []int{0, 1, 2, 100, 101, 102, 103, 104, 105, 106, 107, 108, 210, 211, 212, 213, 318, 319, 1000, 8191, 8192}
}

func TestP8_1Cut(t *testing.T) {
	r := rand.New(rand.NewPCG(8, 1))
	for _, a := range sizes() {
		for _, b := range sizes() {
			l := [][]byte{some(r, a), some(r, b)}
			if got, e := frag.Cut(l...); e != api.OK || !same(got, slowCut(l)) {
				t.Fatal(a, b, e)
			}
		}
	}
	for range 300 {
		var l [][]byte
		for range r.IntN(40) {
			l = append(l, some(r, r.IntN(1+r.IntN(300))))
		}
		if got, e := frag.Cut(l...); e != api.OK || !same(got, slowCut(l)) {
			t.Fatal(len(l), e)
		}
	}
}

func TestP8_1CutExamples(t *testing.T) {
	b := bytes.Repeat([]byte{7}, 107)
	got, _ := frag.Cut(b)
	if !same(got, [][]byte{append([]byte{2, 106}, b[:106]...), {4, 1, 7}}) {
		t.Error(got)
	}
	if got, e := frag.Cut(); e != api.OK || len(got) > 0 {
		t.Error(got, e)
	}
	if got, e := frag.Cut(nil, []byte{}); e != api.OK || !same(got, [][]byte{{1, 0, 1, 0}}) {
		t.Error(got, e)
	}
	if got, _ := frag.Cut([]byte("a"), []byte("b")); !same(got, [][]byte{{1, 1, 97, 1, 1, 98}}) {
		t.Error(got)
	}
}

func TestP8_1CutRefused(t *testing.T) {
	many := make([][]byte, 257)
	if got, e := frag.Cut(many...); e != api.ErrMany || len(got) > 0 {
		t.Error(e)
	}
	if got, e := frag.Cut(many[:256]...); e != api.OK || !same(got, slowCut(many[:256])) {
		t.Error(e)
	}
	long := make([]byte, 8193)
	many[3] = long
	if _, e := frag.Cut(many...); e != api.ErrMany {
		t.Error("ErrMany is told first", e)
	}
	if got, e := frag.Cut(many[:256]...); e != api.ErrLong || len(got) > 0 {
		t.Error(e)
	}
	if _, e := frag.Cut(long[:8192]); e != api.OK {
		t.Error(e)
	}
}

func TestP8_2Need(t *testing.T) {
	if n, e := frag.Need(106); n != 1 || e != api.OK {
		t.Error(n, e)
	}
	if n, e := frag.Need(0, 0); n != 1 || e != api.OK {
		t.Error(n, e)
	}
	if n, e := frag.Need(); n != 0 || e != api.OK {
		t.Error(n, e)
	}
	r := rand.New(rand.NewPCG(8, 2))
	for range 2000 {
		var l [][]byte
		var s []int
		for range r.IntN(12) {
			n := sizes()[r.IntN(17)]
			l, s = append(l, make([]byte, n)), append(s, n)
		}
		if n, e := frag.Need(s...); e != api.OK || n != len(slowCut(l)) {
			t.Fatal(s, n, e)
		}
	}
}

func TestP8_2NeedRefused(t *testing.T) {
	many := make([]int, 257)
	many[0] = -1
	if n, e := frag.Need(many...); n != 0 || e != api.ErrMany {
		t.Error(n, e)
	}
	if n, e := frag.Need(make([]int, 256)...); n != 5 || e != api.OK {
		t.Error(n, e)
	}
	for _, x := range []struct {
		l []int
		e api.Errno
	}{
		{[]int{-1}, api.ErrArg}, {[]int{math.MinInt}, api.ErrArg}, {[]int{8193}, api.ErrLong}, {[]int{math.MaxInt}, api.ErrLong},
		{[]int{1, 8193, -1}, api.ErrLong}, {[]int{1, -1, 8193}, api.ErrArg}, {[]int{8192, 0}, api.OK},
	} {
		if n, e := frag.Need(x.l...); e != x.e || (n == 0) != (e != api.OK) {
			t.Error(x.l, n, e)
		}
	}
}

// slowJoin is the chapter's words: payload by payload, taken apart ahead of being gone through.
func slowJoin(payloads [][]byte) ([][]byte, int) {
	var records [][]byte
	var begun []byte
	open := false
	for n, p := range payloads {
		was := slices.Clone(records)
		bad := len(p) > 108
		for rest := p; len(rest) > 0 && !bad; {
			if len(rest) < 2 || rest[1] > 106 || len(rest) < 2+int(rest[1]) {
				bad = true
				break
			}
			part := rest[2 : 2+rest[1]]
			switch rest[0] {
			case 1:
				records, open = append(records, part), false
			case 2:
				begun, open = bytes.Clone(part), true
			case 3, 4:
				if !open || len(begun)+len(part) > 8192 {
					bad = true
				}
				begun = append(bytes.Clone(begun), part...)
				if rest[0] == 4 {
					records, open = append(records, begun), false
				}
			default:
				bad = true
			}
			rest = rest[2+rest[1]:]
		}
		if bad {
			return was, n
		}
	}
	return records, len(payloads)
}

// joins tells whether Join tells just these records, of so many payloads.
func joins(t *testing.T, payloads [][]byte, n int, want ...string) {
	t.Helper()
	got, k := frag.Join(payloads...)
	var texts []string
	for _, b := range got {
		texts = append(texts, string(b))
	}
	if k != n || !slices.Equal(texts, want) {
		t.Errorf("%v: %q, %d", payloads, texts, k)
	}
}

func TestP8_3Join(t *testing.T) {
	x := func(p ...string) [][]byte {
		var l [][]byte
		for _, s := range p {
			l = append(l, []byte(s))
		}
		return l
	}
	joins(t, nil, 0)
	joins(t, x(""), 1)
	joins(t, x("", "\x01\x01a", ""), 3, "a")
	joins(t, x("\x01\x00\x01\x01a"), 1, "", "a")
	joins(t, x("\x02\x01a\x03\x00\x03\x01b", "\x04\x01c"), 2, "abc")
	joins(t, x("\x02\x01a", "\x01\x01b"), 2, "b")
	joins(t, x("\x02\x01a", "\x02\x01b\x04\x01c"), 2, "bc")
	joins(t, x("\x02\x01a", "\x01\x01b\x04\x01c"), 1)
	joins(t, x("\x02\x01a", "\x03\x01b"), 2)
	joins(t, x("\x01\x01a", "\x03\x01b", "\x01\x01c"), 1, "a")
	joins(t, x("\x01\x01a", "\x01\x01b\x04\x01c", "\x01\x01c"), 1, "a")
	joins(t, x("\x02\x01a\x04\x01b\x04\x01c"), 0)
	joins(t, x("\x01\x01a", "\x01\x01b\x05\x01c"), 1, "a")
	joins(t, x("\x01\x01a", "\x01\x01b\x00\x00"), 1, "a")
	joins(t, x("\x01\x01a", "\x01\x01b\x01"), 1, "a")
	joins(t, x("\x01\x01a", "\x01\x01b\x01\x02c"), 1, "a")
	joins(t, x("\x01\x6a"+string(make([]byte, 106))), 1, string(make([]byte, 106)))
	joins(t, x("\x01\x6b"+string(make([]byte, 107))), 0)
	joins(t, x("\x01\x01a", string(bytes.Repeat([]byte{1, 0}, 54))+"\x01"), 1, "a")
	joins(t, x(string(bytes.Repeat([]byte{1, 0}, 54))), 1, make([]string, 54)...)
	joins(t, x(string(bytes.Repeat([]byte{1, 0}, 55))), 0)
}

func TestP8_3JoinOfTooLong(t *testing.T) {
	part := bytes.Repeat([]byte{9}, 106)
	l := [][]byte{append([]byte{2, 106}, part...)}
	for len(l) < 77 {
		l = append(l, append([]byte{3, 106}, part...))
	}
	for _, x := range []struct{ kind, size, n int }{{4, 30, 78}, {4, 31, 77}, {3, 30, 78}, {3, 31, 77}, {4, 106, 77}} {
		p := append(slices.Clone(l), append([]byte{byte(x.kind), byte(x.size)}, part[:x.size]...))
		got, n := frag.Join(p...)
		want := 0
		if x.kind == 4 && x.size == 30 {
			want = 1
		}
		if n != x.n || len(got) != want || want == 1 && len(got[0]) != 8192 {
			t.Error(x, n, len(got))
		}
	}
}

func TestP8_3JoinIsTheWords(t *testing.T) {
	r := rand.New(rand.NewPCG(8, 3))
	for range 50000 {
		var l [][]byte
		for range r.IntN(5) {
			var p []byte
			for range r.IntN(4) {
				n := r.IntN(3)
				p = append(p, byte(1+r.IntN(4)), byte(n))
				p = append(p, some(r, n)...)
			}
			if len(p) > 0 && r.IntN(8) == 0 {
				p[r.IntN(len(p))] = byte(r.IntN(7))
			}
			l = append(l, p)
		}
		want, n := slowJoin(l)
		if got, k := frag.Join(l...); k != n || !same(got, want) {
			t.Fatal(l, got, k, want, n)
		}
	}
}

// group is some records by chance.
func group(r *rand.Rand) [][]byte {
	var l [][]byte
	for range r.IntN(8) {
		l = append(l, some(r, sizes()[r.IntN(17)]))
	}
	return l
}

func TestP8_4ThereAndBack(t *testing.T) {
	r := rand.New(rand.NewPCG(8, 4))
	for range 2000 {
		l := group(r)
		p, _ := frag.Cut(l...)
		if got, n := frag.Join(p...); n != len(p) || !same(got, l) {
			t.Fatal(len(l), n)
		}
	}
	long := [][]byte{some(r, 8192), nil, some(r, 8192)}
	p, _ := frag.Cut(long...)
	if got, n := frag.Join(p...); n != len(p) || !same(got, long) {
		t.Error("the longest")
	}
}

// whole is how many of the records have all their fragments in the first n payloads.
func whole(l [][]byte, n int) int {
	k := 0
	for k < len(l) && len(slowCut(l[:k+1])) <= n {
		k++
	}
	return k
}

func TestP8_5TornOff(t *testing.T) {
	r := rand.New(rand.NewPCG(8, 5))
	for range 500 {
		l := group(r)
		p, _ := frag.Cut(l...)
		for n := range p {
			if got, k := frag.Join(p[:n]...); k != n || !same(got, l[:whole(l, n)]) {
				t.Fatal(n, k, len(got))
			}
		}
	}
}

func TestP8_6Groups(t *testing.T) {
	r := rand.New(rand.NewPCG(8, 6))
	for range 1000 {
		var all, want [][]byte
		for range 4 {
			l := group(r)
			p, _ := frag.Cut(l...)
			n := len(p)
			if n > 0 && r.IntN(2) == 0 {
				n = r.IntN(n)
			}
			all = append(all, p[:n]...)
			want = append(want, l[:whole(l, n)]...)
		}
		if got, n := frag.Join(all...); n != len(all) || !same(got, want) {
			t.Fatal(n, len(all), len(got), len(want))
		}
	}
}

func TestRulesOwnMemory(t *testing.T) {
	b := []byte("abc")
	p, _ := frag.Cut(b, b)
	b[0] = 'z'
	l, _ := frag.Join(p...)
	p[0][2] = 'y'
	l[1][0] = 'w'
	m, _ := frag.Join([]byte("\x02\x01a\x04\x01b\x02\x01c\x04\x01d"))
	m[0] = append(m[0], "zzz"...)
	if string(l[0]) != "abc" || string(m[1]) != "cd" {
		t.Error("an answer shares memory")
	}
}

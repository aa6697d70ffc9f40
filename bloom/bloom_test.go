package bloom_test

import (
	"bytes"
	"math"
	"math/big"
	"math/rand/v2"
	"slices"
	"strconv"
	"testing"

	"lien/api"
	"lien/bloom"
)

// slowHash is the chapter's words, in numbers without bound that are cut.
func slowHash(key string) *big.Int {
	num := func(s string) *big.Int {
		n, _ := new(big.Int).SetString(s, 16)
		return n
	}
	cut := new(big.Int).Lsh(big.NewInt(1), 64)
	h := num("9E3779B97F4A7C15")
	for _, x := range []byte(key) {
		h.Xor(h, big.NewInt(int64(x)))
		h.Mul(h, num("BF58476D1CE4E5B9")).Mod(h, cut)
	}
	h.Xor(h, new(big.Int).Rsh(h, 31))
	h.Mul(h, num("94D049BB133111EB")).Mod(h, cut)
	return h.Xor(h, new(big.Int).Rsh(h, 29))
}

// slowPlaces are a key's places by the chapter's words.
func slowPlaces(key string, probes, size int) []int {
	h := slowHash(key)
	s := new(big.Int).Rsh(h, 33)
	if s.Sign() == 0 {
		s.SetInt64(1)
	}
	cut := new(big.Int).Lsh(big.NewInt(1), 64)
	var l []int
	for range probes {
		l = append(l, int(new(big.Int).Mod(h, big.NewInt(int64(size))).Int64()))
		h.Add(h, s).Mod(h, cut)
	}
	return l
}

// slowMake is a filter by the chapter's words.
func slowMake(keys []string, bits int) []byte {
	size := len(keys) * bits
	for size%8 > 0 || size < 64 {
		size++
	}
	probes := bits * 7 / 10
	if probes < 1 {
		probes = 1
	}
	f := make([]byte, 1+size/8)
	f[0] = byte(probes)
	for _, k := range keys {
		for _, at := range slowPlaces(k, probes, size) {
			f[1+at/8] |= 1 << (at % 8)
		}
	}
	return f
}

// keys are n texts by chance.
func keys(r *rand.Rand, n int) []string {
	l := make([]string, n)
	for i := range l {
		b := make([]byte, r.IntN(20))
		for k := range b {
			b[k] = byte(r.Uint32())
		}
		l[i] = string(b)
	}
	return l
}

func TestP11_1Hash(t *testing.T) {
	for _, k := range append(keys(rand.New(rand.NewPCG(11, 1)), 3000), "", "a", "\x00", "\x00\x00", "\xff", string(make([]byte, 5000))) {
		if got := bloom.Hash(k); got != slowHash(k).Uint64() {
			t.Fatalf("%q: %x", k, got)
		}
	}
}

func TestP11_1Make(t *testing.T) {
	r := rand.New(rand.NewPCG(11, 2))
	if f, e := bloom.Make(nil, 10); e != api.OK || !bytes.Equal(f, []byte{7, 0, 0, 0, 0, 0, 0, 0, 0}) {
		t.Error(f, e)
	}
	for bits := 1; bits <= 16; bits++ {
		for _, n := range []int{0, 1, 2, 3, 5, 7, 9, 20, 63, 64, 65, 200} {
			k := keys(r, n)
			if f, e := bloom.Make(k, bits); e != api.OK || !bytes.Equal(f, slowMake(k, bits)) {
				t.Error(bits, n, e)
			}
		}
	}
	twice := append(keys(r, 30), "a", "a", "a", "a", "a", "a", "a")
	if f, _ := bloom.Make(twice, 10); len(f) != 1+47 || !bytes.Equal(f, slowMake(twice, 10)) {
		t.Error("alike ones count, too", len(f))
	}
}

func TestP11_1MakeAtTheEdges(t *testing.T) {
	many := make([]string, 4097)
	for i := range many {
		many[i] = strconv.Itoa(i)
	}
	for _, bits := range []int{math.MinInt, -1, 0, 17, math.MaxInt} {
		if f, e := bloom.Make(many, bits); e != api.ErrBloom || len(f) > 0 {
			t.Error(bits, e)
		}
	}
	if f, e := bloom.Make(many, 1); e != api.ErrMany || len(f) > 0 {
		t.Error(e)
	}
	if f, e := bloom.Make(make([]string, 4097), 1); e != api.ErrMany || len(f) > 0 {
		t.Error("alike ones, too", e)
	}
	f, e := bloom.Make(many[:4096], 16)
	if e != api.OK || len(f) != 1+8192 || !bytes.Equal(f, slowMake(many[:4096], 16)) {
		t.Error(e, len(f))
	}
}

func TestP11_2Check(t *testing.T) {
	for n := range 8300 {
		f := make([]byte, n)
		if n > 0 {
			f[0] = 5
		}
		want := api.ErrBloom
		if n >= 9 && n <= 8193 {
			want = api.OK
		}
		set, all, e := bloom.Count(f)
		if bloom.Check(f) != want || e != want || set != 0 || e == api.OK && all != 8*(n-1) || e != api.OK && all != 0 {
			t.Fatal(n, e, all)
		}
	}
	for p := range 256 {
		f := append([]byte{byte(p)}, bytes.Repeat([]byte{255}, 8)...)
		ok := p >= 1 && p <= 16
		if (bloom.Check(f) == api.OK) != ok || bloom.Has(f, "a") != ok || bloom.Has(f, "") != ok {
			t.Error(p)
		}
	}
	if bloom.Check(nil) != api.ErrBloom || bloom.Has(nil, "a") || bloom.Has(make([]byte, 8), "") || bloom.Has(append([]byte{5}, bytes.Repeat([]byte{255}, 7)...), "a") {
		t.Error("no filter")
	}
}

func TestP11_2HasAndCount(t *testing.T) {
	r := rand.New(rand.NewPCG(11, 3))
	for range 2000 {
		f := make([]byte, 9+r.IntN(6))
		set := 0
		for i := range f {
			f[i] = byte(r.Uint32() | r.Uint32())
			for k := range 8 {
				if i > 0 {
					set += int(f[i] >> k & 1)
				}
			}
		}
		f[0] = byte(1 + r.IntN(16))
		if got, all, e := bloom.Count(f); e != api.OK || got != set || all != 8*len(f)-8 {
			t.Fatal(got, all, e)
		}
		k := keys(r, 1)[0]
		want := true
		for _, at := range slowPlaces(k, int(f[0]), 8*len(f)-8) {
			want = want && f[1+at/8]>>(at%8)&1 == 1
		}
		if bloom.Has(f, k) != want {
			t.Fatalf("%q", k)
		}
	}
}

func TestP11_3NeverMissed(t *testing.T) {
	r := rand.New(rand.NewPCG(11, 4))
	for bits := 1; bits <= 16; bits++ {
		for range 20 {
			k := keys(r, r.IntN(300))
			f, _ := bloom.Make(k, bits)
			for _, x := range k {
				if !bloom.Has(f, x) {
					t.Fatal(bits, x)
				}
			}
		}
	}
}

func TestP11_4Order(t *testing.T) {
	r := rand.New(rand.NewPCG(11, 5))
	for range 200 {
		k := keys(r, r.IntN(100))
		f, _ := bloom.Make(k, 1+r.IntN(16))
		o := slices.Clone(k)
		r.Shuffle(len(o), func(i, j int) { o[i], o[j] = o[j], o[i] })
		for bits := 1; bits <= 16; bits++ {
			a, _ := bloom.Make(k, bits)
			if b, _ := bloom.Make(o, bits); !bytes.Equal(a, b) {
				t.Fatal("order")
			}
		}
		if len(f) < 9 {
			t.Fatal("short")
		}
	}
}

func TestP11_5More(t *testing.T) {
	r := rand.New(rand.NewPCG(11, 6))
	for range 300 {
		f, _ := bloom.Make(keys(r, r.IntN(60)), 1+r.IntN(16))
		g := bytes.Clone(f)
		for i := 1; i < len(g); i++ {
			g[i] |= byte(r.Uint32())
		}
		for _, k := range keys(r, 60) {
			if bloom.Has(f, k) && !bloom.Has(g, k) {
				t.Fatal(k)
			}
		}
	}
}

func TestP11_6Few(t *testing.T) {
	r := rand.New(rand.NewPCG(11, 7))
	for range 500 {
		k := keys(r, r.IntN(60))
		f, _ := bloom.Make(k, 1+r.IntN(16))
		if set, all, e := bloom.Count(f); e != api.OK || set > len(k)*int(f[0]) || set > all {
			t.Fatal(set, all)
		}
	}
}

func TestRulesOwnMemory(t *testing.T) {
	k := []string{"b", "a"}
	f, _ := bloom.Make(k, 10)
	want := bytes.Clone(f)
	k[0] = "z"
	g, _ := bloom.Make([]string{"b", "a"}, 10)
	g[1]++
	if !bytes.Equal(f, want) || k[1] != "a" {
		t.Error("an answer shares memory")
	}
}

package code_test

import (
	"bytes"
	"encoding/binary"
	"math"
	"math/rand/v2"
	"slices"
	"strings"
	"testing"

	"lien/api"
	"lien/code"
)

// chance is a row of numbers that is the same in each run.
func chance() *rand.Rand {
	return rand.New(rand.NewPCG(2, 1))
}

// numbers are those at the edges, and some by chance.
func numbers() []uint64 {
	l := []uint64{0, 1, 127, 128, 129, 300, 16383, 16384, math.MaxUint32, math.MaxInt64, 1 << 63, math.MaxUint64 - 1, math.MaxUint64}
	r := chance()
	for i := range 64 {
		l = append(l, 1<<i, 1<<i-1, r.Uint64()>>i)
	}
	return l
}

// tails are what may stand behind.
func tails() [][]byte {
	return [][]byte{nil, {0}, {255}, {128}, {1, 2, 3}, bytes.Repeat([]byte{200}, 20)}
}

func TestP2_1NumIsTheWords(t *testing.T) {
	for _, n := range numbers() {
		want := binary.AppendUvarint(nil, n)
		if got := code.Num(n); !bytes.Equal(got, want) {
			t.Errorf("Num(%d): %v, not %v", n, got, want)
		}
	}
	if !bytes.Equal(code.Num(300), []byte{172, 2}) || !bytes.Equal(code.Num(0), []byte{0}) {
		t.Error("the example, and 0")
	}
}

// noNum tells whether TakeNum takes nothing.
func noNum(b []byte) bool {
	n, rest, ok := code.TakeNum(b)
	return n == 0 && len(rest) == 0 && !ok
}

func TestP2_1TakeNum(t *testing.T) {
	for _, n := range numbers() {
		for _, tail := range tails() {
			got, rest, ok := code.TakeNum(append(code.Num(n), tail...))
			if !ok || got != n || !bytes.Equal(rest, tail) {
				t.Errorf("TakeNum of %d and %v: %d, %v, %v", n, tail, got, rest, ok)
			}
		}
	}
}

func TestP2_1TakeNumOfNone(t *testing.T) {
	nines := bytes.Repeat([]byte{255}, 9)
	for _, b := range [][]byte{
		nil, {}, {128}, {255}, {255, 255}, {128, 0}, {255, 0}, {129, 128, 0}, {128, 128},
		nines, append(bytes.Clone(nines), 2), append(bytes.Clone(nines), 127), append(bytes.Clone(nines), 255),
		append(bytes.Clone(nines), 129, 0), append(bytes.Clone(nines), 0), bytes.Repeat([]byte{128}, 40),
	} {
		if !noNum(b) {
			t.Errorf("TakeNum(%v)", b)
		}
	}
	if n, _, ok := code.TakeNum(append(nines, 1)); !ok || n != math.MaxUint64 {
		t.Error("the greatest number")
	}
	for _, n := range numbers() {
		b := code.Num(n)
		for i := range b {
			if !noNum(b[:i]) {
				t.Errorf("TakeNum of the first %d bytes of %d", i, n)
			}
		}
	}
}

func TestP2_1WhatIsTakenIsWhatStood(t *testing.T) {
	r := chance()
	for range 200000 {
		b := make([]byte, r.IntN(12))
		for i := range b {
			b[i] = byte(r.Uint32()) | byte(r.IntN(2)<<7)
		}
		n, rest, ok := code.TakeNum(b)
		if ok && !bytes.Equal(append(code.Num(n), rest...), b) {
			t.Fatalf("TakeNum(%v): %d, %v", b, n, rest)
		}
		if want, size := binary.Uvarint(b); !ok && size > 0 && bytes.Equal(code.Num(want), b[:size]) {
			t.Fatalf("TakeNum(%v) is %d", b, want)
		}
	}
}

func TestP2_2Text(t *testing.T) {
	for _, n := range []int{0, 1, 5, 127, 128, 300, 4096, 20000} {
		s := strings.Repeat("x\x00", n/2) + strings.Repeat("y", n%2)
		b := code.Text(s)
		if !bytes.Equal(b, append(binary.AppendUvarint(nil, uint64(n)), s...)) {
			t.Errorf("Text of %d bytes", n)
		}
		for _, tail := range tails() {
			for _, most := range []int{n, n + 1, math.MaxInt} {
				got, rest, ok := code.TakeText(append(bytes.Clone(b), tail...), most)
				if !ok || got != s || !bytes.Equal(rest, tail) {
					t.Errorf("TakeText of %d bytes and %v, at most %d", n, tail, most)
				}
			}
			for _, most := range []int{n - 1, -1, math.MinInt} {
				if got, rest, ok := code.TakeText(append(bytes.Clone(b), tail...), most); ok || got != "" || len(rest) > 0 {
					t.Errorf("TakeText of %d bytes, at most %d", n, most)
				}
			}
		}
	}
}

func TestP2_2TakeTextOfNone(t *testing.T) {
	huge := code.Num(math.MaxUint64)
	for _, b := range [][]byte{nil, {1}, {2, 65}, {128}, {129, 0, 65}, huge, append(huge, 65), append(code.Num(1<<63), 65), append(code.Num(math.MaxInt64), 65)} {
		if got, rest, ok := code.TakeText(b, math.MaxInt); ok || got != "" || len(rest) > 0 {
			t.Errorf("TakeText(%v): %q, %v", b, got, rest)
		}
	}
}

func TestP2_3Fixed(t *testing.T) {
	for _, n := range numbers() {
		var all [8]byte
		binary.BigEndian.PutUint64(all[:], n)
		for size := 1; size <= 8; size++ {
			b := code.Fixed(n, size)
			if !bytes.Equal(b, all[8-size:]) {
				t.Errorf("Fixed(%d, %d): %v", n, size, b)
			}
			want := n
			if size < 8 {
				want = n % (1 << (8 * size))
			}
			for _, tail := range tails() {
				got, rest, ok := code.TakeFixed(append(bytes.Clone(b), tail...), size)
				if !ok || got != want || !bytes.Equal(rest, tail) {
					t.Errorf("TakeFixed of %d in %d: %d, %v, %v", n, size, got, rest, ok)
				}
			}
			if got, rest, ok := code.TakeFixed(b[:size-1], size); ok || got != 0 || len(rest) > 0 {
				t.Errorf("TakeFixed of too few bytes, %d", size)
			}
		}
	}
	for _, size := range []int{math.MinInt, -1, 0, 9, math.MaxInt} {
		if got, rest, ok := code.TakeFixed(make([]byte, 20), size); len(code.Fixed(5, size)) > 0 || ok || got != 0 || len(rest) > 0 {
			t.Errorf("size %d", size)
		}
	}
}

// slowKey is the chapter's words.
func slowKey(parts []string) string {
	out := ""
	for _, p := range parts {
		out += strings.ReplaceAll(p, "\x00", "\x00\xff") + "\x00\x01"
	}
	return out
}

// someParts are parts by chance, of bytes at the edges.
func someParts(r *rand.Rand) []string {
	out := make([]string, r.IntN(api.MaxParts+1))
	for i := range out {
		b := make([]byte, r.IntN(4))
		for k := range b {
			b[k] = []byte{0, 1, 2, 254, 255, 97}[r.IntN(6)]
		}
		out[i] = string(b)
	}
	return out
}

func TestP2_4Key(t *testing.T) {
	if k, e := code.Key("a", ""); e != api.OK || k != "a\x00\x01\x00\x01" {
		t.Errorf("%q, %d", k, e)
	}
	if k, e := code.Key(); e != api.OK || k != "" {
		t.Errorf("%q, %d", k, e)
	}
	eight := strings.Split("a.b.c.d.e.f.g.h", ".")
	if k, e := code.Key(eight...); e != api.OK || k != slowKey(eight) {
		t.Errorf("%q, %d", k, e)
	}
	if k, e := code.Key(append(eight, "")...); e != api.ErrMany || k != "" {
		t.Errorf("%q, %d", k, e)
	}
	r := chance()
	for range 5000 {
		parts := someParts(r)
		if k, e := code.Key(parts...); e != api.OK || k != slowKey(parts) {
			t.Fatalf("Key(%q): %q, %d", parts, k, e)
		}
	}
}

func TestP2_4Parts(t *testing.T) {
	if p, e := code.Parts(""); e != api.OK || len(p) > 0 {
		t.Error(p, e)
	}
	nine := strings.Repeat("a\x00\x01", 9)
	if p, e := code.Parts(nine[3:]); e != api.OK || len(p) != 8 {
		t.Error("eight parts", p, e)
	}
	for _, key := range []string{"a", "\x00", "a\x00", "a\x00\x02", "a\x00\x00", "a\x00\x01b", "a\x00\x01\x00", "\x00\xff", "\x00\xff\x01", "\x00\xfe\x00\x01", nine} {
		if p, e := code.Parts(key); e != api.ErrCode || len(p) > 0 {
			t.Errorf("Parts(%q): %q, %d", key, p, e)
		}
	}
}

// somewhat is a text by chance, of bytes at the edges.
func somewhat(r *rand.Rand, most int) string {
	b := make([]byte, r.IntN(most+1))
	for i := range b {
		b[i] = []byte{0, 0, 1, 255, 254, 97}[r.IntN(6)]
	}
	return string(b)
}

func TestP2_4PartsAreThoseWhoseKeyItIs(t *testing.T) {
	r := chance()
	whole := 0
	for range 200000 {
		key := somewhat(r, 7)
		parts, e := code.Parts(key)
		if e == api.OK {
			whole++
		}
		if e == api.OK && slowKey(parts) != key {
			t.Fatalf("Parts(%q): %q", key, parts)
		}
	}
	if whole < 1000 {
		t.Error("too few keys", whole)
	}
	for range 20000 {
		want := someParts(r)
		if got, e := code.Parts(slowKey(want)); e != api.OK || !slices.Equal(got, want) {
			t.Fatalf("Parts of %q: %q, %d", want, got, e)
		}
	}
}

func TestP2_5Behind(t *testing.T) {
	for key, want := range map[string]string{"": "", "a": "b", "a\xff": "b", "a\xff\xff": "b", "\xff": "", "\xff\xff": "", "ab\x00": "ab\x01", "a\xfe": "a\xff", "\xffa": "\xffb", "a\xffb": "a\xffc"} {
		if got := code.Behind(key); got != want {
			t.Errorf("Behind(%q): %q", key, got)
		}
	}
}

func TestP2_6ThereAndBack(t *testing.T) {
	r := chance()
	for range 20000 {
		n, s, size := r.Uint64()>>r.IntN(64), somewhat(r, 9), 1+r.IntN(8)
		b := slices.Concat(code.Num(n), code.Text(s), code.Fixed(n, size), []byte{7})
		gotNum, rest, ok := code.TakeNum(b)
		gotText, rest, ok2 := code.TakeText(rest, 9)
		gotFixed, rest, ok3 := code.TakeFixed(rest, size)
		if !ok || !ok2 || !ok3 || gotNum != n || gotText != s || !bytes.Equal(rest, []byte{7}) {
			t.Fatal(n, s, size, rest)
		}
		if again := slices.Concat(code.Num(gotNum), code.Text(gotText), code.Fixed(gotFixed, size), rest); !bytes.Equal(again, b) {
			t.Fatal(again, b)
		}
	}
}

func TestP2_7Order(t *testing.T) {
	r := chance()
	for range 50000 {
		a, b := someParts(r), someParts(r)
		if r.IntN(2) == 0 {
			b = append(slices.Clone(a[:r.IntN(len(a)+1)]), b...)
			b = b[:min(len(b), api.MaxParts)]
		}
		x, _ := code.Key(a...)
		y, _ := code.Key(b...)
		if strings.Compare(x, y) != slices.Compare(a, b) {
			t.Fatalf("%q, %q", a, b)
		}
	}
}

func TestP2_8Behind(t *testing.T) {
	r := chance()
	for range 100000 {
		key, other := somewhat(r, 4), somewhat(r, 5)
		end := code.Behind(key)
		if end == "" {
			if strings.Trim(key, "\xff") != "" {
				t.Fatalf("Behind(%q): nothing", key)
			}
			continue
		}
		if key+other >= end {
			t.Fatalf("%q is not below Behind(%q)", key+other, key)
		}
		if other >= end && strings.HasPrefix(other, key) {
			t.Fatalf("%q begins with %q", other, key)
		}
		if other > key && !strings.HasPrefix(other, key) && other < end {
			t.Fatalf("Behind(%q): %q is less", key, other)
		}
	}
}

func TestRulesOwnMemory(t *testing.T) {
	b := slices.Concat(code.Num(300), []byte("abc"))
	_, rest, _ := code.TakeNum(b)
	_, text, _ := code.TakeText(append(code.Text("x"), b...), 9)
	fixed := slices.Concat(code.Fixed(7, 3), []byte("abc"))
	_, rest3, _ := code.TakeFixed(fixed, 3)
	rest[0], text[0], rest3[0] = 'z', 'z', 'z'
	if string(b[2:]) != "abc" || string(fixed[3:]) != "abc" || rest[1] != 'b' {
		t.Error("an answer shares memory with what was handed in")
	}
	for i := range b {
		b[i] = 0
	}
	if string(rest) != "zbc" {
		t.Error("an answer is changed by what becomes of an argument")
	}
}

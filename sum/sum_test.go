package sum_test

import (
	"bytes"
	"hash/crc32"
	"math"
	"math/rand/v2"
	"testing"

	"lien/api"
	"lien/sum"
)

const longest = 1 << 20

// slowIn is the chapter's words, bit by bit: bytes go into a register.
func slowIn(r uint32, b ...byte) uint32 {
	for _, x := range b {
		r ^= uint32(x)
		for range 8 {
			fell := r & 1
			r >>= 1
			if fell == 1 {
				r ^= 0x82F63B78
			}
		}
	}
	return r
}

// slowSum is the chapter's words: the sum of bytes.
func slowSum(b []byte) uint32 {
	return ^slowIn(0xFFFFFFFF, b...)
}

// slowLength is a length as the chapter counts it.
func slowLength(n int) int {
	if n < 0 {
		return 0
	}
	if n > longest {
		return longest
	}
	return n
}

// chance is a row of numbers that is the same in each run.
func chance() *rand.Rand {
	return rand.New(rand.NewPCG(1, 2))
}

// someBytes are n bytes by chance.
func someBytes(r *rand.Rand, n int) []byte {
	b := make([]byte, n)
	for i := range b {
		b[i] = byte(r.Uint32())
	}
	return b
}

// turned is another text like b, of which the bits of the mask are turned from bit at on, the lowest of each byte first.
func turned(b []byte, at int, mask uint64) []byte {
	out := bytes.Clone(b)
	for i := 0; mask>>i != 0; i++ {
		if mask>>i&1 == 1 {
			out[(at+i)/8] ^= 1 << ((at + i) % 8)
		}
	}
	return out
}

// texts are ordinary ones, and those at the edges.
func texts() [][]byte {
	r := chance()
	l := [][]byte{nil, {}, {0}, {255}, make([]byte, 4), bytes.Repeat([]byte{255}, 32), []byte("123456789")}
	for n := range 70 {
		l = append(l, someBytes(r, n))
	}
	for _, n := range []int{123, 124, 125, 255, 256, 257, 1000, 4096} {
		l = append(l, someBytes(r, n))
	}
	return l
}

func TestP1_1KnownSums(t *testing.T) {
	up, down := make([]byte, 32), make([]byte, 32)
	for i := range 32 {
		up[i], down[31-i] = byte(i), byte(i)
	}
	for _, x := range []struct {
		b    []byte
		want uint32
	}{
		{nil, 0},
		{[]byte{}, 0},
		{[]byte("a"), 0xC1D04330},
		{[]byte("123456789"), 0xE3069283},
		{make([]byte, 32), 0x8A9136AA},
		{bytes.Repeat([]byte{255}, 32), 0x62A8AB43},
		{up, 0x46DD794E},
		{down, 0x113FDB5C},
	} {
		if got := sum.Of(x.b); got != x.want {
			t.Errorf("Of(%x): %08X, not %08X", x.b, got, x.want)
		}
	}
}

func TestP1_1OfIsTheWords(t *testing.T) {
	for i := range 256 {
		if b := []byte{byte(i)}; sum.Of(b) != slowSum(b) {
			t.Errorf("Of(%x): %08X, not %08X", b, sum.Of(b), slowSum(b))
		}
	}
	other := crc32.MakeTable(crc32.Castagnoli)
	for _, b := range append(texts(), someBytes(chance(), 70000)) {
		if got := sum.Of(b); got != slowSum(b) || got != crc32.Checksum(b, other) {
			t.Errorf("Of %d bytes: %08X, not %08X", len(b), got, slowSum(b))
		}
	}
}

func TestP1_1MoreIsTheWords(t *testing.T) {
	r := chance()
	for _, b := range texts() {
		for _, c := range []uint32{0, 1, 1 << 31, math.MaxUint32, r.Uint32()} {
			if got, want := sum.More(c, b), ^slowIn(^c, b...); got != want {
				t.Errorf("More(%08X, %d bytes): %08X, not %08X", c, len(b), got, want)
			}
		}
	}
	if sum.More(7, nil) != 7 {
		t.Error("More of nothing")
	}
}

func TestP1_2JoinIsTheWords(t *testing.T) {
	r := chance()
	lengths := []int{math.MinInt, -longest, -1, longest - 1, longest, longest + 1, math.MaxInt32, math.MaxInt}
	for n := range 300 {
		lengths = append(lengths, n)
	}
	for _, n := range lengths {
		a, b := r.Uint32(), r.Uint32()
		want := slowIn(a, make([]byte, slowLength(n))...) ^ b
		if got := sum.Join(a, b, n); got != want {
			t.Errorf("Join(%08X, %08X, %d): %08X, not %08X", a, b, n, got, want)
		}
	}
}

func TestP1_2LengthsThatAreCut(t *testing.T) {
	at := sum.Join(0xE3069283, 0, longest)
	if sum.Join(0xE3069283, 0, longest+1) != at || sum.Join(0xE3069283, 0, math.MaxInt) != at {
		t.Error("a length above 2^20 counts as 2^20")
	}
	if sum.Join(0xE3069283, 0, longest-1) == at {
		t.Error("a length below 2^20 counts as it is")
	}
	if sum.Join(5, 7, -1) != 2 || sum.Join(5, 7, math.MinInt) != 2 || sum.Join(5, 7, 0) != 2 {
		t.Error("a length below 0 counts as 0")
	}
}

// slowBent is the chapter's words.
func slowBent(n, bit int) uint32 {
	n = slowLength(n)
	if bit < 0 || bit >= 8*n {
		return 0
	}
	b := make([]byte, n)
	b[bit/8] = 1 << (bit % 8)
	return slowIn(0, b...)
}

func TestP1_3BentIsTheWords(t *testing.T) {
	for n := -1; n <= 40; n++ {
		for bit := -9; bit <= 8*n+9; bit++ {
			if got, want := sum.Bent(n, bit), slowBent(n, bit); got != want {
				t.Fatalf("Bent(%d, %d): %08X, not %08X", n, bit, got, want)
			}
		}
	}
}

func TestP1_3Edges(t *testing.T) {
	for _, n := range []int{math.MinInt, -1, 0, 1, longest - 1, longest, longest + 1, math.MaxInt} {
		m := slowLength(n)
		for _, bit := range []int{math.MinInt, -1, 0, 7, 8, 8*m - 8, 8*m - 1, 8 * m, 8*m + 1, math.MaxInt} {
			if got, want := sum.Bent(n, bit), slowBent(n, bit); got != want {
				t.Errorf("Bent(%d, %d): %08X, not %08X", n, bit, got, want)
			}
		}
	}
	if sum.Bent(longest, 8*longest-1) == 0 || sum.Bent(longest+1, 8*longest) != 0 {
		t.Error("the last bit of the greatest length, and the one behind it")
	}
	if sum.Bent(1, 0) == 0 || sum.Bent(1, 7) != 0x82F63B78 {
		t.Error("the bits of one byte")
	}
}

func TestP1_4Seal(t *testing.T) {
	if got := sum.Seal([]byte("123456789")); string(got) != "123456789\x83\x92\x06\xE3" {
		t.Errorf("%x", got)
	}
	if got := sum.Seal(nil); !bytes.Equal(got, []byte{0, 0, 0, 0}) {
		t.Errorf("%x", got)
	}
	for _, b := range texts() {
		c := slowSum(b)
		want := append(bytes.Clone(b), byte(c), byte(c>>8), byte(c>>16), byte(c>>24))
		if got := sum.Seal(b); !bytes.Equal(got, want) {
			t.Errorf("Seal(%x): %x", b, got)
		}
	}
}

// refused tells whether Open answers ErrSum, and nothing else.
func refused(b []byte) bool {
	got, e := sum.Open(b)
	return e == api.ErrSum && len(got) == 0
}

func TestP1_4Open(t *testing.T) {
	for _, b := range texts() {
		c := slowSum(b)
		sealed := append(bytes.Clone(b), byte(c), byte(c>>8), byte(c>>16), byte(c>>24))
		if got, e := sum.Open(sealed); e != api.OK || !bytes.Equal(got, b) {
			t.Errorf("Open(%x): %x, %d", sealed, got, e)
		}
		if !refused(append(sealed, 0)) {
			t.Errorf("Open of %x and a 0", sealed)
		}
		swapped := append(bytes.Clone(b), byte(c>>24), byte(c>>16), byte(c>>8), byte(c))
		if !bytes.Equal(swapped, sealed) && !refused(swapped) {
			t.Errorf("Open of a sum whose highest byte is first: %x", swapped)
		}
	}
}

func TestP1_4OpenOfTooLittle(t *testing.T) {
	for n := range 4 {
		if !refused(make([]byte, n)) || !refused(bytes.Repeat([]byte{255}, n)) {
			t.Errorf("Open of %d bytes", n)
		}
	}
	if !refused(nil) {
		t.Error("Open of nil")
	}
	if got, e := sum.Open(make([]byte, 4)); e != api.OK || len(got) != 0 {
		t.Error("four bytes 0 are nothing, sealed", got, e)
	}
	if !refused([]byte{255, 255, 255, 255}) || !refused([]byte{1, 0, 0, 0}) || !refused([]byte("123456789")) {
		t.Error("bytes without their sum")
	}
}

func TestP1_5OneBehindTheOther(t *testing.T) {
	for _, b := range texts() {
		whole := sum.Of(b)
		for i := 0; i <= len(b) && i <= 300; i++ {
			ahead, behind := b[:i], b[i:]
			if sum.More(sum.Of(ahead), behind) != whole {
				t.Fatalf("More: %d bytes and %d", i, len(b)-i)
			}
			if sum.Join(sum.Of(ahead), sum.Of(behind), len(behind)) != whole {
				t.Fatalf("Join: %d bytes and %d", i, len(b)-i)
			}
		}
	}
	long := someBytes(chance(), longest+9)
	if sum.Join(sum.Of(long[:9]), sum.Of(long[9:]), longest) != sum.Of(long) {
		t.Error("Join: the greatest length")
	}
}

func TestP1_6Bent(t *testing.T) {
	for _, b := range texts() {
		for bit := 0; bit < 8*len(b) && bit < 2100; bit++ {
			if sum.Of(turned(b, bit, 1)) != sum.Of(b)^sum.Bent(len(b), bit) {
				t.Fatalf("%d bytes, bit %d", len(b), bit)
			}
		}
	}
	long := someBytes(chance(), longest)
	for _, bit := range []int{0, 1, 8*longest - 1} {
		if sum.Of(turned(long, bit, 1)) != sum.Of(long)^sum.Bent(longest, bit) {
			t.Errorf("the greatest length, bit %d", bit)
		}
	}
}

func TestP1_7ThereAndBack(t *testing.T) {
	for _, b := range append(texts(), someBytes(chance(), longest+1)) {
		sealed := sum.Seal(b)
		if got, e := sum.Open(sealed); e != api.OK || !bytes.Equal(got, b) {
			t.Errorf("%d bytes: %d", len(b), e)
		}
		twice, e := sum.Open(sum.Seal(sealed))
		if e != api.OK || !bytes.Equal(twice, sealed) {
			t.Errorf("%d bytes, sealed twice: %d", len(b), e)
		}
	}
}

func TestP1_8ShortBurstsAll(t *testing.T) {
	for n := range 6 {
		sealed := sum.Seal(someBytes(chance(), n))
		for at := range 8 * len(sealed) {
			for mask := uint64(1); mask < 1<<9 && at+9 <= 8*len(sealed); mask++ {
				if !refused(turned(sealed, at, mask)) {
					t.Fatalf("%d bytes, from bit %d on, mask %b", n, at, mask)
				}
			}
		}
	}
}

func TestP1_8LongBursts(t *testing.T) {
	r := chance()
	for _, n := range []int{0, 1, 3, 4, 5, 30, 124, 300} {
		sealed := sum.Seal(someBytes(r, n))
		for long := 1; long <= 32; long++ {
			for at := 0; at+long <= 8*len(sealed); at++ {
				ends := uint64(1) | uint64(1)<<(long-1)
				all := uint64(1)<<long - 1
				for _, mask := range []uint64{ends, all, ends | r.Uint64()&all} {
					if !refused(turned(sealed, at, mask)) {
						t.Fatalf("%d bytes, from bit %d on, mask %b", n, at, mask)
					}
				}
			}
		}
	}
}

func TestP1_9Three(t *testing.T) {
	r := chance()
	for n := range 200 {
		a, b, c := someBytes(r, n), someBytes(r, n), someBytes(r, n)
		all := make([]byte, n)
		for i := range n {
			all[i] = a[i] ^ b[i] ^ c[i]
		}
		if sum.Of(all) != sum.Of(a)^sum.Of(b)^sum.Of(c) {
			t.Fatalf("three of %d bytes", n)
		}
	}
}

// roomy is text with room behind it, which is all 170.
func roomy(text []byte) []byte {
	b := bytes.Repeat([]byte{170}, len(text)+16)
	copy(b, text)
	return b[:len(text)]
}

// spoil turns all bytes of b, and those that it has room for.
func spoil(b []byte) {
	b = b[:cap(b)]
	for i := range b {
		b[i] ^= 255
	}
}

// oneself tells whether a call's answers share memory with what it is given, or with one another, or change it.
func oneself(call func([]byte) []byte, text []byte) bool {
	given := roomy(text)
	first := call(given)
	want := bytes.Clone(first)
	second := call(given)
	spoil(first)
	if !bytes.Equal(second, want) || !bytes.Equal(given[:cap(given)], roomy(text)[:len(text)+16]) {
		return false
	}
	spoil(given)
	return bytes.Equal(second, want)
}

func TestP1_10Own(t *testing.T) {
	open := func(b []byte) []byte {
		out, _ := sum.Open(b)
		return out
	}
	for _, b := range texts() {
		if !oneself(sum.Seal, b) {
			t.Errorf("Seal of %d bytes", len(b))
		}
		if !oneself(open, sum.Seal(b)) {
			t.Errorf("Open of %d bytes, sealed", len(b))
		}
	}
}

func TestP1_10NothingIsKept(t *testing.T) {
	b := []byte("123456789")
	sealed := sum.Seal(b)
	b[0]++
	if sum.Of(b) != slowSum(b) || sum.Of([]byte("123456789")) != 0xE3069283 {
		t.Error("a sum hangs on its bytes alone")
	}
	if got, e := sum.Open(sealed); e != api.OK || string(got) != "123456789" {
		t.Error(got, e)
	}
}

package frame_test

import (
	"bytes"
	"encoding/binary"
	"hash/crc32"
	"math"
	"math/rand/v2"
	"testing"

	"lien/api"
	"lien/frame"
)

// laid is the chapter's words: a frame of any numbers, with its sum.
func laid(magic, kind, size int, s api.Stamp, payload []byte) []byte {
	b := make([]byte, api.Sector)
	b[0], b[1] = byte(magic), byte(kind)
	binary.LittleEndian.PutUint16(b[2:], uint16(size))
	binary.LittleEndian.PutUint32(b[4:], uint32(s.File))
	binary.LittleEndian.PutUint32(b[8:], uint32(s.Epoch))
	binary.LittleEndian.PutUint32(b[12:], uint32(s.Index))
	copy(b[16:124], payload)
	return summed(b)
}

// summed is a sector whose last four bytes are made the sum of the others.
func summed(b []byte) []byte {
	binary.LittleEndian.PutUint32(b[124:], crc32.Checksum(b[:124], crc32.MakeTable(crc32.Castagnoli)))
	return b
}

// stamps are those at the edges, and some by chance.
func stamps() []api.Stamp {
	r := rand.New(rand.NewPCG(4, 1))
	l := []api.Stamp{{}, {File: 1, Epoch: 2, Index: 3}, {File: api.MaxStamp}, {Epoch: api.MaxStamp}, {Index: api.MaxStamp}, {File: api.MaxStamp, Epoch: api.MaxStamp, Index: api.MaxStamp}}
	for range 20 {
		l = append(l, api.Stamp{File: r.IntN(1 << 31), Epoch: r.IntN(1 << 31), Index: r.IntN(1 << 31)})
	}
	return l
}

// payloads are of all lengths.
func payloads() [][]byte {
	var l [][]byte
	for n := range api.Room + 1 {
		b := make([]byte, n)
		for i := range b {
			b[i] = byte(n + i*7)
		}
		l = append(l, b)
	}
	return append(l, make([]byte, 5), make([]byte, api.Room), bytes.Repeat([]byte{255}, api.Room))
}

// wrong are stamps that may not be.
func wrong() []api.Stamp {
	var l []api.Stamp
	for _, n := range []int{math.MinInt, -1, api.MaxStamp + 1, 1 << 32, math.MaxInt} {
		l = append(l, api.Stamp{File: n}, api.Stamp{Epoch: n}, api.Stamp{Index: n})
	}
	return l
}

func TestP4_1Check(t *testing.T) {
	for _, s := range stamps() {
		if e := frame.Check(s); e != api.OK {
			t.Error(s, e)
		}
	}
	for _, s := range wrong() {
		if e := frame.Check(s); e != api.ErrArg {
			t.Error(s, e)
		}
	}
}

func TestP4_2Encode(t *testing.T) {
	for _, s := range stamps() {
		for kind := api.FSuper; kind <= api.FManifest; kind++ {
			for _, p := range payloads() {
				b, e := frame.Encode(s, kind, p)
				if e != api.OK || !bytes.Equal(b, laid(76, int(kind), len(p), s, p)) {
					t.Fatal(s, kind, len(p), e, b)
				}
			}
		}
	}
	want := summed(append([]byte{76, 2, 1, 0, 1, 0, 0, 0, 2, 0, 0, 0, 3, 0, 0, 0, 120}, make([]byte, 111)...))
	if b, e := frame.Encode(api.Stamp{File: 1, Epoch: 2, Index: 3}, api.FLog, []byte("x")); e != api.OK || !bytes.Equal(b, want) {
		t.Error(b, e)
	}
}

func TestP4_2EncodeRefused(t *testing.T) {
	long := make([]byte, api.Room+1)
	for _, s := range wrong() {
		if b, e := frame.Encode(s, api.FLog, nil); e != api.ErrArg || len(b) > 0 {
			t.Error(s, e)
		}
		if _, e := frame.Encode(s, api.FLog, long); e != api.ErrArg {
			t.Error("ErrArg is told first", e)
		}
	}
	for _, kind := range []api.FrameKind{math.MinInt, -1, 0, 5, 257, math.MaxInt} {
		if b, e := frame.Encode(api.Stamp{}, kind, long); e != api.ErrArg || len(b) > 0 {
			t.Error(kind, e)
		}
	}
	for _, n := range []int{109, 110, 128, 5000} {
		if b, e := frame.Encode(api.Stamp{}, api.FLog, make([]byte, n)); e != api.ErrLong || len(b) > 0 {
			t.Error(n, e)
		}
	}
}

// none tells whether bytes are decoded as no frame.
func none(b []byte) bool {
	s, k, p, e := frame.Decode(b)
	return e == api.ErrFrame && s == api.Stamp{} && k == api.NoFrame && len(p) == 0 && !frame.Is(b, api.Stamp{}, api.FLog)
}

func TestP4_3Decode(t *testing.T) {
	s := api.Stamp{File: 5, Epoch: 6, Index: 7}
	good := laid(76, 2, 3, s, []byte("abc"))
	if none(good) {
		t.Fatal("a frame")
	}
	for n, b := range map[string][]byte{
		"nothing":         nil,
		"short":           good[:127],
		"long":            append(bytes.Clone(good), 0),
		"zeros":           make([]byte, 128),
		"magic":           laid(75, 2, 3, s, []byte("abc")),
		"kind 0":          laid(76, 0, 3, s, []byte("abc")),
		"kind 5":          laid(76, 5, 3, s, []byte("abc")),
		"kind 255":        laid(76, 255, 3, s, []byte("abc")),
		"109 bytes":       laid(76, 2, 109, s, nil),
		"259 bytes":       laid(76, 2, 259, s, nil),
		"no zeros":        laid(76, 2, 2, s, []byte("abc")),
		"no zero at 123":  laid(76, 2, 107, s, append(make([]byte, 107), 1)),
		"file too great":  laid(76, 2, 3, api.Stamp{File: 1 << 31}, []byte("abc")),
		"epoch too great": laid(76, 2, 3, api.Stamp{Epoch: 1 << 31}, []byte("abc")),
		"index too great": laid(76, 2, 3, api.Stamp{Index: 1<<32 - 1}, []byte("abc")),
	} {
		if !none(b) {
			t.Error(n)
		}
	}
	for i := 124; i < 128; i++ {
		b := bytes.Clone(good)
		b[i]++
		if !none(b) {
			t.Error("sum", i)
		}
	}
}

func TestP4_4Is(t *testing.T) {
	for _, s := range []api.Stamp{{File: 5, Epoch: 6, Index: 7}, {}, {File: api.MaxStamp, Epoch: api.MaxStamp, Index: api.MaxStamp}} {
		for kind := api.FSuper; kind <= api.FManifest; kind++ {
			b := laid(76, int(kind), 3, s, []byte("abc"))
			for k := api.FrameKind(-1); k < 7; k++ {
				if frame.Is(b, s, k) != (k == kind) {
					t.Error(kind, k)
				}
			}
			for _, x := range []struct {
				s    api.Stamp
				want bool
			}{
				{api.Stamp{File: s.File + 1, Epoch: s.Epoch, Index: s.Index}, false},
				{api.Stamp{File: s.File - 1, Epoch: s.Epoch, Index: s.Index}, false},
				{api.Stamp{File: s.File, Epoch: s.Epoch, Index: s.Index + 1}, false},
				{api.Stamp{File: s.File, Epoch: s.Epoch, Index: s.Index - 1}, false},
				{api.Stamp{File: s.File, Epoch: s.Epoch + 1, Index: s.Index}, false},
				{api.Stamp{File: s.File, Epoch: math.MaxInt, Index: s.Index}, false},
				{api.Stamp{File: s.File, Epoch: s.Epoch - 1, Index: s.Index}, true},
				{api.Stamp{File: s.File, Epoch: math.MinInt, Index: s.Index}, true},
			} {
				if frame.Is(b, x.s, kind) != x.want {
					t.Error(s, x.s)
				}
			}
			b[127] ^= 1
			if frame.Is(b, s, kind) || frame.Is(nil, s, kind) {
				t.Error("no frame")
			}
		}
	}
}

func TestP4_5ThereAndBack(t *testing.T) {
	for _, s := range stamps() {
		for _, p := range payloads() {
			b, _ := frame.Encode(s, api.FTable, p)
			gotStamp, kind, payload, e := frame.Decode(b)
			if e != api.OK || gotStamp != s || kind != api.FTable || !bytes.Equal(payload, p) {
				t.Fatal(s, len(p), e)
			}
			if again, e := frame.Encode(gotStamp, kind, payload); e != api.OK || !bytes.Equal(again, b) {
				t.Fatal("encoded again", s, len(p))
			}
		}
	}
}

func TestP4_6Spoilt(t *testing.T) {
	r := rand.New(rand.NewPCG(4, 6))
	for _, p := range [][]byte{nil, []byte("x"), make([]byte, 50), payloads()[api.Room]} {
		good, _ := frame.Encode(api.Stamp{File: 1, Epoch: 2, Index: 3}, api.FLog, p)
		for long := 1; long <= 32; long++ {
			for at := 0; at+long <= 8*len(good); at++ {
				all := uint64(1)<<long - 1
				ends := uint64(1) | uint64(1)<<(long-1)
				for _, mask := range []uint64{ends, all, ends | r.Uint64()&all} {
					b := bytes.Clone(good)
					for i := range long {
						b[(at+i)/8] ^= byte(mask>>i&1) << ((at + i) % 8)
					}
					if !none(b) {
						t.Fatalf("from bit %d on, %b", at, mask)
					}
				}
			}
		}
	}
}

func TestRulesOwnMemory(t *testing.T) {
	p := []byte("abc")
	b, _ := frame.Encode(api.Stamp{}, api.FLog, p)
	want := bytes.Clone(b)
	p[0] = 'z'
	_, _, one, _ := frame.Decode(b)
	_, _, two, _ := frame.Decode(b)
	one[0] = 'y'
	if !bytes.Equal(b, want) || string(two) != "abc" {
		t.Error("an answer shares memory")
	}
	other, _ := frame.Encode(api.Stamp{}, api.FLog, p)
	other[20] = 9
	if !bytes.Equal(b, want) {
		t.Error("two answers share memory")
	}
}

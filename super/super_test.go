package super_test

import (
	"bytes"
	"math"
	"math/rand/v2"
	"reflect"
	"testing"

	"lien/api"
	"lien/disk"
	"lien/frame"
	"lien/super"
)

// pairs are n pairs of plots, from one on.
func pairs(from, n int) []api.Pair {
	var l []api.Pair
	for i := range n {
		l = append(l, api.Pair{A: from + 2*i, B: from + 2*i + 1})
	}
	return l
}

// first is the superblock of the chapter's example.
func first() api.Super {
	return api.Super{Gen: 1, Epoch: 1, Man: api.Place{ID: 1, Epoch: 1, Pairs: pairs(0, 1)}}
}

// good are superblocks that may be, at the edges.
func good() []api.Super {
	m := api.MaxStamp
	return []api.Super{
		first(),
		{Gen: m, Epoch: m, Man: api.Place{ID: m, Epoch: m, Pairs: []api.Pair{{A: 510, B: 0}}}},
		{Gen: 2, Epoch: 7, Man: api.Place{ID: 3, Epoch: 1, Pairs: pairs(495, 8)}},
		{Gen: 300, Epoch: 70000, Man: api.Place{ID: 1 << 24, Epoch: 70000, Pairs: []api.Pair{{A: 300, B: 256}, {A: 255, B: 1}}}},
	}
}

// bad are superblocks that may not be.
func bad() []api.Super {
	var l []api.Super
	for _, n := range []int{math.MinInt, -1, 0, api.MaxStamp + 1, math.MaxInt} {
		a, b, c, d := first(), first(), first(), first()
		a.Gen, b.Epoch, c.Man.ID, d.Man.Epoch = n, n, n, n
		l = append(l, a, b, c, d)
	}
	e, f := first(), first()
	e.Man.Epoch = 2
	f.Epoch, f.Man.Epoch = 5, 6
	l = append(l, e, f, api.Super{})
	for _, p := range [][]api.Pair{
		nil, pairs(0, 9), {{A: -1, B: 1}}, {{A: 1, B: -1}}, {{A: 511, B: 1}}, {{A: 1, B: 511}}, {{A: 3, B: 3}},
		{{A: 1, B: 2}, {A: 2, B: 3}}, {{A: 1, B: 2}, {A: 3, B: 1}}, {{A: 1, B: 2}, {A: 1, B: 3}}, {{A: math.MinInt, B: math.MaxInt}},
	} {
		s := first()
		s.Man.Pairs = p
		l = append(l, s)
	}
	return l
}

// sector is a superblock's by the chapter's words, whether it may be or not.
func sector(s api.Super) []byte {
	p := []byte{byte(s.Man.ID), byte(s.Man.ID >> 8), byte(s.Man.ID >> 16), byte(s.Man.ID >> 24), byte(s.Man.Epoch), byte(s.Man.Epoch >> 8), byte(s.Man.Epoch >> 16), byte(s.Man.Epoch >> 24), byte(len(s.Man.Pairs))}
	for _, x := range s.Man.Pairs {
		p = append(p, byte(x.A), byte(x.A>>8), byte(x.B), byte(x.B>>8))
	}
	b, _ := frame.Encode(api.Stamp{Epoch: s.Epoch, Index: s.Gen}, api.FSuper, p)
	return b
}

// blank is a disk that must be made.
func blank(t *testing.T, sectors int) *disk.Disk {
	t.Helper()
	d, e := disk.New(sectors)
	if e != api.OK {
		t.Fatal(e)
	}
	return d
}

func TestP5_1Check(t *testing.T) {
	for _, s := range good() {
		if e := super.Check(s); e != api.OK {
			t.Error(s, e)
		}
	}
	for _, s := range bad() {
		if e := super.Check(s); e != api.ErrSuper {
			t.Error(s, e)
		}
	}
}

func TestP5_1Encode(t *testing.T) {
	for _, s := range good() {
		if b, e := super.Encode(s); e != api.OK || !bytes.Equal(b, sector(s)) {
			t.Error(s, e, b)
		}
	}
	for _, s := range bad() {
		if b, e := super.Encode(s); e != api.ErrSuper || len(b) > 0 {
			t.Error(s, e)
		}
	}
	want := []byte{76, 1, 13, 0, 0, 0, 0, 0, 1, 0, 0, 0, 1, 0, 0, 0, 1, 0, 0, 0, 1, 0, 0, 0, 1, 0, 0, 1, 0}
	if b, _ := super.Encode(first()); !bytes.Equal(b[:29], want) {
		t.Error(b)
	}
}

func TestP5_1Decode(t *testing.T) {
	for _, s := range good() {
		if got, e := super.Decode(sector(s)); e != api.OK || !reflect.DeepEqual(got, s) {
			t.Error(s, got, e)
		}
	}
	l := [][]byte{nil, make([]byte, 128), sector(first())[:127]}
	for _, s := range bad() {
		if b := sector(s); b != nil && super.Check(back(b)) != api.OK {
			l = append(l, b)
		}
	}
	_, _, p, _ := frame.Decode(sector(first()))
	add := func(s api.Stamp, k api.FrameKind, p []byte) {
		b, _ := frame.Encode(s, k, p)
		l = append(l, b)
	}
	stamp := api.Stamp{Epoch: 1, Index: 1}
	add(stamp, api.FLog, p)
	add(stamp, api.FManifest, p)
	add(api.Stamp{File: 1, Epoch: 1, Index: 1}, api.FSuper, p)
	add(stamp, api.FSuper, nil)
	add(stamp, api.FSuper, p[:8])
	add(stamp, api.FSuper, p[:9])
	add(stamp, api.FSuper, p[:12])
	add(stamp, api.FSuper, append(bytes.Clone(p), 0))
	add(stamp, api.FSuper, append(bytes.Clone(p), 5, 0, 6, 0))
	add(api.Stamp{Index: 1}, api.FSuper, p)
	add(api.Stamp{Epoch: 1}, api.FSuper, p)
	for i := range 128 {
		b := sector(first())
		b[i] ^= 1
		l = append(l, b)
	}
	for i, b := range l {
		if s, e := super.Decode(b); e != api.ErrSuper || !reflect.DeepEqual(s, api.Super{}) {
			t.Error(i, b, s, e)
		}
	}
}

// back reads what sector laid, cut to the bytes that it laid.
func back(b []byte) api.Super {
	stamp, _, p, _ := frame.Decode(b)
	s := api.Super{Gen: stamp.Index, Epoch: stamp.Epoch}
	num := func(at, n int) int {
		x := 0
		for i := range n {
			x |= int(p[at+i]) << (8 * i)
		}
		return x
	}
	s.Man.ID, s.Man.Epoch = num(0, 4), num(4, 4)
	for i := range num(8, 1) {
		s.Man.Pairs = append(s.Man.Pairs, api.Pair{A: num(9+4*i, 2), B: num(11+4*i, 2)})
	}
	return s
}

// gen is a superblock of that number.
func gen(n int) api.Super {
	return api.Super{Gen: n, Epoch: n + 5, Man: api.Place{ID: n, Epoch: 3, Pairs: pairs(n%100, 1+n%8)}}
}

func TestP5_2Load(t *testing.T) {
	d := blank(t, 4)
	if s, e := super.Load(d); e != api.ErrNone || s.Gen != 0 {
		t.Error(s, e)
	}
	lay := func(at int, b []byte) { d.Write(at, b) }
	want := func(n int, why string) {
		t.Helper()
		s, e := super.Load(d)
		if n == 0 && e != api.ErrNone || n > 0 && !reflect.DeepEqual(s, gen(n)) {
			t.Error(why, s, e)
		}
	}
	lay(0, sector(gen(3)))
	lay(2, sector(gen(4)))
	want(0, "in a slot that is not its own")
	lay(1, sector(gen(4)))
	want(4, "the second copy alone")
	lay(3, sector(gen(3)))
	want(4, "the greater one")
	lay(3, sector(gen(5)))
	want(5, "the last sector")
	lay(0, sector(gen(6)))
	want(6, "the first sector")
	lay(1, sector(gen(8)))
	want(8, "the greater one of a slot")
	other := gen(8)
	other.Epoch = 1000
	lay(0, sector(other))
	if s, e := super.Load(d); e != api.OK || s.Epoch != 1000 {
		t.Error("of two alike the first counts", s, e)
	}
	lay(0, make([]byte, 128))
	want(8, "the first copy spoilt")
}

func TestP5_2LoadErrors(t *testing.T) {
	for n := 1; n < 4; n++ {
		d := blank(t, n)
		d.Write(0, sector(gen(2)))
		if s, e := super.Load(d); e != api.ErrRange || s.Gen != 0 {
			t.Error(n, e)
		}
	}
	d := blank(t, 4)
	d.Fuse(0)
	if _, e := super.Load(d); e != api.ErrDown {
		t.Error(e)
	}
	for _, d := range []*disk.Disk{nil, {}} {
		if _, e := super.Load(d); e != api.ErrNil {
			t.Error(e)
		}
	}
}

func TestP5_3Save(t *testing.T) {
	d := blank(t, 5)
	for n := 1; n < 6; n++ {
		before := [5][]byte{}
		for at := range 5 {
			before[at], _ = d.Read(at)
		}
		if e := super.Save(d, gen(n)); e != api.OK || len(d.Loose()) > 0 || d.Done() != 3*n {
			t.Error(n, e, d.Done())
		}
		for at := range 5 {
			b, _ := d.Read(at)
			want := before[at]
			if at/2 == n%2 && at < 4 {
				want = sector(gen(n))
			}
			if !bytes.Equal(b, want) {
				t.Error(n, at)
			}
		}
	}
}

func TestP5_3SaveErrors(t *testing.T) {
	d := blank(t, 4)
	for _, s := range bad() {
		if e := super.Save(d, s); e != api.ErrSuper || d.Done() != 0 {
			t.Error(s, e)
		}
	}
	if super.Save(nil, bad()[0]) != api.ErrSuper || super.Save(nil, first()) != api.ErrNil || super.Save(&disk.Disk{}, first()) != api.ErrNil {
		t.Error("no disk")
	}
	if small := blank(t, 2); super.Save(small, gen(1)) != api.ErrRange || small.Done() != 0 || super.Save(small, gen(2)) != api.OK {
		t.Error("a disk without the slot")
	}
	if small := blank(t, 3); super.Save(small, gen(1)) != api.ErrRange || small.Done() != 1 {
		t.Error("a disk with half the slot")
	}
	for n := range 4 {
		d := blank(t, 4)
		d.Fuse(n)
		want := api.ErrDown
		if n == 3 {
			want = api.OK
		}
		if e := super.Save(d, first()); e != want || d.Done() != n {
			t.Error(n, e)
		}
		var loose []api.Loose
		for at := 2; at < 2+n && n < 3; at++ {
			loose = append(loose, api.Loose{At: at, Many: 1})
		}
		if !reflect.DeepEqual(d.Loose(), loose) {
			t.Error("A first", n, d.Loose())
		}
	}
}

func TestP5_4Mend(t *testing.T) {
	d := blank(t, 4)
	if n, e := super.Mend(d); n != 0 || e != api.ErrNone || d.Done() != 0 {
		t.Error(n, e)
	}
	super.Save(d, gen(1))
	super.Save(d, gen(2))
	for _, x := range []struct{ at, mended int }{{0, 1}, {1, 1}, {2, 0}, {3, 0}} {
		d.Rot(x.at, 20, 1)
		done := d.Done()
		n, e := super.Mend(d)
		if n != x.mended || e != api.OK || d.Done() != done+n || len(d.Loose()) != n {
			t.Error(x, n, e)
		}
		d.Flush()
		for at := range 2 {
			if b, _ := d.Read(at); !bytes.Equal(b, sector(gen(2))) {
				t.Error(x, at)
			}
		}
	}
	elder := sector(gen(2))
	d.Write(0, sector(gen(4)))
	if n, e := super.Mend(d); n != 1 || e != api.OK {
		t.Error("a copy of an elder one", n, e)
	}
	if b, _ := d.Read(1); bytes.Equal(b, elder) {
		t.Error("still there")
	}
	d.Write(1, sector(gen(3)))
	if n, e := super.Mend(d); n != 1 || e != api.OK {
		t.Error("a copy in a slot that is not its own", n, e)
	}
}

func TestP5_4MendErrors(t *testing.T) {
	if n, e := super.Mend(nil); n != 0 || e != api.ErrNil {
		t.Error(n, e)
	}
	if n, e := super.Mend(blank(t, 3)); n != 0 || e != api.ErrRange {
		t.Error(n, e)
	}
	d := blank(t, 4)
	super.Save(d, gen(1))
	d.Fuse(0)
	if n, e := super.Mend(d); n != 0 || e != api.ErrDown {
		t.Error(n, e)
	}
}

// TestP5_4MendWithAFuse: what a copy is stands on the disk ahead of any writing, also where the disk is down behind the writing.
func TestP5_4MendWithAFuse(t *testing.T) {
	for _, newest := range []int{2, 3} {
		from := newest % 2 * 2
		for spoilt := -1; spoilt < 2; spoilt++ {
			for fuse := range 4 {
				d := blank(t, 4)
				super.Save(d, gen(newest-1))
				super.Save(d, gen(newest))
				var loose []api.Loose
				if spoilt >= 0 {
					d.Rot(from+spoilt, 20, 1)
					loose = append(loose, api.Loose{At: from + spoilt, Many: 1})
				}
				d.Fuse(fuse)
				want := api.OK
				if fuse == 0 {
					want, loose = api.ErrDown, nil
				}
				if n, e := super.Mend(d); n != len(loose) || e != want || !reflect.DeepEqual(d.Loose(), loose) {
					t.Error(newest, spoilt, fuse, n, e, d.Loose())
				}
			}
		}
	}
	for at, other := range []int{1, 0} {
		d := blank(t, 4)
		d.Write(at, sector(gen(2)))
		d.Write(other, sector(gen(4)))
		d.Flush()
		d.Fuse(1)
		if n, e := super.Mend(d); n != 1 || e != api.OK || !d.Down() || !reflect.DeepEqual(d.Loose(), []api.Loose{{At: at, Many: 1}}) {
			t.Error(at, n, e, d.Loose())
		}
	}
}

func TestP5_5ThereAndBack(t *testing.T) {
	r := rand.New(rand.NewPCG(5, 5))
	for range 5000 {
		s := api.Super{Gen: 1 + r.IntN(api.MaxStamp), Epoch: 1 + r.IntN(api.MaxStamp)}
		s.Man.ID, s.Man.Epoch = 1+r.IntN(api.MaxStamp), 1+r.IntN(s.Epoch)
		plots := r.Perm(api.MaxPlots)
		for i := range 1 + r.IntN(8) {
			s.Man.Pairs = append(s.Man.Pairs, api.Pair{A: plots[2*i], B: plots[2*i+1]})
		}
		b, e := super.Encode(s)
		got, e2 := super.Decode(b)
		if e != api.OK || e2 != api.OK || !reflect.DeepEqual(got, s) {
			t.Fatal(s, got)
		}
		if again, _ := super.Encode(got); !bytes.Equal(again, b) {
			t.Fatal(s)
		}
	}
}

// fates are all ways in which a loose sector with one write may come out, at some cuts.
func fates() []api.Fate {
	l := []api.Fate{{Keep: 1}}
	for cut := range 128 {
		l = append(l, api.Fate{Cut: cut})
	}
	return l
}

func TestP5_6OneOfBoth(t *testing.T) {
	for n := 2; n < 5; n++ {
		for fuse := range 4 {
			d := blank(t, 4)
			for k := max(1, n-2); k < n; k++ {
				super.Save(d, gen(k))
			}
			d.Fuse(fuse)
			told := super.Save(d, gen(n)) == api.OK
			for _, a := range fates() {
				for _, b := range fates() {
					l := []api.Fate{a, b}[:len(d.Loose())]
					c, e := d.Crash(l...)
					if e != api.OK {
						t.Fatal(e)
					}
					s, e := super.Load(c)
					if e != api.OK || s.Gen != n && (told || s.Gen != n-1) || !reflect.DeepEqual(s, gen(s.Gen)) {
						t.Fatal(n, fuse, l, s, e)
					}
					if len(l) == 0 {
						break
					}
				}
				if len(d.Loose()) == 0 {
					break
				}
			}
		}
	}
}

func TestP5_7OneCopy(t *testing.T) {
	r := rand.New(rand.NewPCG(5, 7))
	for n := 2; n < 6; n++ {
		for range 300 {
			d := blank(t, 4)
			super.Save(d, gen(n-1))
			super.Save(d, gen(n))
			at := n%2*2 + r.IntN(2)
			for range 1 + r.IntN(5) {
				d.Rot(at, r.IntN(128), byte(1+r.IntN(255)))
			}
			if s, e := super.Load(d); e != api.OK || !reflect.DeepEqual(s, gen(n)) {
				t.Fatal(n, at, s, e)
			}
			super.Mend(d)
			for k := range 2 {
				if b, _ := d.Read(n%2*2 + k); !bytes.Equal(b, sector(gen(n))) {
					t.Fatal(n, at, k)
				}
			}
		}
	}
}

func TestRulesOwnMemory(t *testing.T) {
	d := blank(t, 4)
	s := gen(3)
	super.Save(d, s)
	s.Man.Pairs[0].A = 99
	one, _ := super.Load(d)
	one.Man.Pairs[0].A = 98
	if two, _ := super.Load(d); !reflect.DeepEqual(two, gen(3)) {
		t.Error(two)
	}
}

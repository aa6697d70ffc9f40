package file_test

import (
	"bytes"
	"math"
	"math/rand/v2"
	"testing"

	"lien/api"
	"lien/disk"
	"lien/file"
	"lien/frame"
)

// blank is a disk that must be made.
func blank(t *testing.T, sectors int) *disk.Disk {
	t.Helper()
	d, e := disk.New(sectors)
	if e != api.OK {
		t.Fatal(e)
	}
	return d
}

// place is one of some pairs of plots.
func place(id, epoch int, plots ...int) api.Place {
	p := api.Place{ID: id, Epoch: epoch}
	for i := 0; i < len(plots); i += 2 {
		p.Pairs = append(p.Pairs, api.Pair{A: plots[i], B: plots[i+1]})
	}
	return p
}

// upTo is a place of n pairs, one behind the other.
func upTo(n int) api.Place {
	p := api.Place{ID: 1, Epoch: 1}
	for i := range n {
		p.Pairs = append(p.Pairs, api.Pair{A: 2 * i, B: 2*i + 1})
	}
	return p
}

// wrong are places that may not be on a disk of ten plots.
func wrong() []api.Place {
	l := []api.Place{{}, place(1, 1), upTo(65), upTo(6), place(1, 1, -1, 2), place(1, 1, 2, -1), place(1, 1, 10, 2), place(1, 1, 2, 10), place(1, 1, 3, 3),
		place(1, 1, 1, 2, 3, 1), place(1, 1, 1, 2, 2, 3), place(1, 1, 1, 2, 1, 3), place(1, 1, 1, 2, 3, 2), place(1, 1, math.MinInt, math.MaxInt)}
	for _, n := range []int{math.MinInt, -1, 0, api.MaxStamp + 1, math.MaxInt} {
		l = append(l, place(n, 1, 0, 1), place(1, n, 0, 1))
	}
	return l
}

func TestP7_1Check(t *testing.T) {
	for _, p := range []api.Place{place(1, 1, 0, 1), place(api.MaxStamp, api.MaxStamp, 9, 0), place(3, 2, 1, 2, 4, 3), upTo(5)} {
		if e := file.Check(p, 84); e != api.OK {
			t.Error(p, e)
		}
	}
	for _, p := range wrong() {
		if e := file.Check(p, 84); e != api.ErrFile {
			t.Error(p, e)
		}
	}
	if file.Check(upTo(64), 4096) != api.OK || file.Check(upTo(64), 4+8*128) != api.OK || file.Check(upTo(64), 3+8*128) != api.ErrFile || file.Check(upTo(64), math.MaxInt) != api.OK {
		t.Error("64 pairs")
	}
	for _, n := range []int{math.MinInt, -1, 0, 4, 19} {
		if file.Check(upTo(1), n) != api.ErrFile {
			t.Error(n)
		}
	}
	if file.Check(upTo(1), 20) != api.OK {
		t.Error("20 sectors")
	}
}

func TestP7_1FramesAndSectors(t *testing.T) {
	if file.Frames(api.Place{}) != 0 || file.Frames(upTo(1)) != 8 || file.Frames(upTo(64)) != 512 || file.Frames(place(-4, 0, -7, -7, 900, 2)) != 16 {
		t.Error("frames")
	}
	p := place(0, -1, 0, 1, 510, 7)
	for i := range 16 {
		wantA, wantB := 4+i, 12+i
		if i >= 8 {
			wantA, wantB = 4+510*8+i-8, 4+7*8+i-8
		}
		if a, b, e := file.Sectors(p, i); e != api.OK || a != wantA || b != wantB {
			t.Error(i, a, b, e)
		}
	}
	for _, i := range []int{math.MinInt, -1, 16, math.MaxInt} {
		if a, b, e := file.Sectors(p, i); e != api.ErrEnd || a != 0 || b != 0 {
			t.Error(i, e)
		}
	}
	odd := place(1, 1, 0, 511, -1, 3, 4, 5)
	for i := range 24 {
		want := api.ErrRange
		if i >= 16 {
			want = api.OK
		}
		if a, b, e := file.Sectors(odd, i); e != want || e != api.OK && (a != 0 || b != 0) {
			t.Error(i, e)
		}
	}
	if _, _, e := file.Sectors(odd, 24); e != api.ErrEnd {
		t.Error(e)
	}
}

// refused asks all calls that take a disk, and tells whether each answers that error, and nothing else.
func refused(d *disk.Disk, p api.Place, kind api.FrameKind, i int, want api.Errno) bool {
	done := d.Done()
	b, epoch, e := file.Read(d, p, kind, i)
	x, y, e2 := file.Whole(d, p, kind, i)
	n, e3 := file.Mend(d, p, kind, i)
	e4 := file.Write(d, p, kind, p.Epoch, i, nil)
	return len(b) == 0 && epoch == 0 && !x && !y && n == 0 && e == want && e2 == want && e3 == want && e4 == want && d.Done() == done
}

func TestP7_2WhatAllAskFirst(t *testing.T) {
	d := blank(t, 84)
	for _, none := range []*disk.Disk{nil, {}} {
		if !refused(none, place(1, 1, 0, 1), api.FLog, 0, api.ErrNil) || !refused(none, api.Place{}, 0, -1, api.ErrNil) {
			t.Error("no disk")
		}
	}
	for _, p := range wrong() {
		if !refused(d, p, api.FLog, 0, api.ErrFile) || !refused(d, p, 9, -1, api.ErrFile) {
			t.Error(p)
		}
	}
	p := place(1, 5, 0, 1)
	for _, k := range []api.FrameKind{math.MinInt, -1, 0, 5, math.MaxInt} {
		if !refused(d, p, k, 0, api.ErrArg) || !refused(d, p, k, -1, api.ErrArg) {
			t.Error(k)
		}
	}
	for _, i := range []int{math.MinInt, -1, 8, math.MaxInt} {
		if !refused(d, p, api.FLog, i, api.ErrEnd) {
			t.Error(i)
		}
	}
	long := make([]byte, 109)
	for _, epoch := range []int{math.MinInt, 0, 4, api.MaxStamp + 1, math.MaxInt} {
		if e := file.Write(d, p, api.FLog, epoch, -1, long); e != api.ErrArg {
			t.Error(epoch, e)
		}
	}
	if e := file.Write(d, p, api.FLog, 5, 8, long); e != api.ErrEnd {
		t.Error(e)
	}
	if e := file.Write(d, p, api.FLog, 5, 7, long); e != api.ErrLong || d.Done() != 0 {
		t.Error(e)
	}
	if file.Write(d, p, api.FLog, api.MaxStamp, 7, long[:108]) != api.OK || file.Write(d, p, api.FSuper, 5, 0, nil) != api.OK {
		t.Error("edges")
	}
}

func TestP7_3Write(t *testing.T) {
	d := blank(t, 84)
	p := place(9, 3, 4, 2, 0, 7)
	if e := file.Write(d, p, api.FTable, 6, 11, []byte("abc")); e != api.OK {
		t.Fatal(e)
	}
	want, _ := frame.Encode(api.Stamp{File: 9, Epoch: 6, Index: 11}, api.FTable, []byte("abc"))
	for at := range 84 {
		b, _ := d.Read(at)
		if bytes.Equal(b, want) != (at == 4+3 || at == 4+56+3) {
			t.Error(at)
		}
	}
	if l := d.Loose(); len(l) != 2 || d.Done() != 2 {
		t.Error("nothing is flushed", l)
	}
	for n := range 3 {
		d := blank(t, 84)
		d.Fuse(n)
		want := api.ErrDown
		if n == 2 {
			want = api.OK
		}
		if e := file.Write(d, p, api.FTable, 6, 0, nil); e != want || d.Done() != n {
			t.Error(n, e)
		}
		if n == 1 && d.Loose()[0].At != 4+32 {
			t.Error("A first")
		}
	}
}

// lay writes a frame to a copy's sector alone.
func lay(d *disk.Disk, at int, s api.Stamp, kind api.FrameKind, payload string) {
	b, _ := frame.Encode(s, kind, []byte(payload))
	d.Write(at, b)
}

// reads tells what is read of frame 3 of place {1, 5, {0, 1}}, whose copies are the sectors 7 and 15.
func reads(t *testing.T, d *disk.Disk, want string, epoch int, a, b bool) {
	t.Helper()
	p := place(1, 5, 0, 1)
	wantE := api.OK
	if want == "" {
		wantE = api.ErrRot
	}
	got, n, e := file.Read(d, p, api.FLog, 3)
	if e != wantE || string(got) != want || n != epoch {
		t.Errorf("%q, %d, %d", got, n, e)
	}
	if x, y, e := file.Whole(d, p, api.FLog, 3); e != api.OK || x != a || y != b {
		t.Error(x, y, e)
	}
}

func TestP7_4ReadAndWhole(t *testing.T) {
	d := blank(t, 84)
	reads(t, d, "", 0, false, false)
	lay(d, 7, api.Stamp{File: 1, Epoch: 5, Index: 3}, api.FLog, "x")
	reads(t, d, "x", 5, true, false)
	lay(d, 15, api.Stamp{File: 1, Epoch: 5, Index: 3}, api.FLog, "y")
	reads(t, d, "x", 5, true, true)
	lay(d, 15, api.Stamp{File: 1, Epoch: 6, Index: 3}, api.FLog, "y")
	reads(t, d, "y", 6, true, true)
	lay(d, 7, api.Stamp{File: 1, Epoch: 7, Index: 3}, api.FLog, "z")
	reads(t, d, "z", 7, true, true)
	for _, s := range []api.Stamp{{File: 2, Epoch: 5, Index: 3}, {File: 1, Epoch: 4, Index: 3}, {File: 1, Epoch: 9, Index: 2}, {File: 1, Epoch: 9, Index: 4}} {
		lay(d, 7, s, api.FLog, "w")
		reads(t, d, "y", 6, false, true)
	}
	lay(d, 7, api.Stamp{File: 1, Epoch: 9, Index: 3}, api.FTable, "w")
	reads(t, d, "y", 6, false, true)
	d.Write(15, make([]byte, 128))
	reads(t, d, "", 0, false, false)
	d.Fuse(0)
	if !refused(d, place(1, 5, 0, 1), api.FLog, 3, api.ErrDown) {
		t.Error("down")
	}
}

func TestP7_5Mend(t *testing.T) {
	p := place(1, 5, 0, 1)
	for _, x := range []struct {
		a, b  int
		n     int
		which string
	}{{5, 5, 1, "a"}, {5, 6, 1, "b"}, {6, 5, 1, "a"}, {0, 5, 1, "b"}, {7, 0, 1, "a"}, {0, 0, 0, ""}, {-5, -5, 0, "same"}} {
		d := blank(t, 84)
		if x.a > 0 {
			lay(d, 7, api.Stamp{File: 1, Epoch: x.a, Index: 3}, api.FLog, "a")
		}
		if x.b > 0 {
			lay(d, 15, api.Stamp{File: 1, Epoch: x.b, Index: 3}, api.FLog, "b")
		}
		if x.a < 0 {
			file.Write(d, p, api.FLog, 5, 3, []byte("same"))
		}
		d.Flush()
		want := api.OK
		if x.which == "" {
			want = api.ErrRot
		}
		done := d.Done()
		n, e := file.Mend(d, p, api.FLog, 3)
		if n != x.n || e != want || d.Done() != done+n || len(d.Loose()) != n {
			t.Error(x, n, e)
		}
		reads(t, d, x.which, max(x.a, x.b, -x.a), want == api.OK, want == api.OK)
		one, _ := d.Read(7)
		two, _ := d.Read(15)
		if !bytes.Equal(one, two) {
			t.Error("alike", x)
		}
		if n, _ := file.Mend(d, p, api.FLog, 3); n != 0 {
			t.Error("again", n)
		}
	}
}

func TestP7_5MendThatIsCutOff(t *testing.T) {
	p := place(1, 5, 0, 1)
	d := blank(t, 84)
	file.Write(d, p, api.FLog, 5, 3, []byte("x"))
	d.Flush()
	d.Rot(15, 3, 1)
	d.Fuse(0)
	if n, e := file.Mend(d, p, api.FLog, 3); n != 0 || e != api.ErrDown {
		t.Error(n, e)
	}
}

func TestP7_6ThereAndBack(t *testing.T) {
	r := rand.New(rand.NewPCG(7, 6))
	d := blank(t, 4096)
	p := upTo(64)
	want := map[int][]byte{}
	for range 3000 {
		i := r.IntN(512)
		b := make([]byte, r.IntN(109))
		for k := range b {
			b[k] = byte(r.Uint32())
		}
		if e := file.Write(d, p, api.FTable, 1+len(want), i, b); e != api.OK {
			t.Fatal(e)
		}
		want[i] = b
	}
	for i, b := range want {
		if got, _, e := file.Read(d, p, api.FTable, i); e != api.OK || !bytes.Equal(got, b) {
			t.Fatal(i, e)
		}
	}
}

func TestP7_7OneCopy(t *testing.T) {
	r := rand.New(rand.NewPCG(7, 7))
	p := place(2, 1, 3, 5, 6, 0)
	for range 2000 {
		d := blank(t, 84)
		i := r.IntN(16)
		file.Write(d, p, api.FManifest, 4, i, []byte("what was written"))
		d.Flush()
		a, b, _ := file.Sectors(p, i)
		at := []int{a, b}[r.IntN(2)]
		d.Rot(at, r.IntN(128), byte(1+r.IntN(255)))
		if got, epoch, e := file.Read(d, p, api.FManifest, i); e != api.OK || epoch != 4 || string(got) != "what was written" {
			t.Fatal(got, e)
		}
		x, y, _ := file.Whole(d, p, api.FManifest, i)
		if x != (at == b) || y != (at == a) {
			t.Fatal(x, y)
		}
		if n, e := file.Mend(d, p, api.FManifest, i); n != 1 || e != api.OK {
			t.Fatal(n, e)
		}
		one, _ := d.Read(a)
		two, _ := d.Read(b)
		x, y, _ = file.Whole(d, p, api.FManifest, i)
		if !x || !y || !bytes.Equal(one, two) {
			t.Fatal("mended")
		}
	}
}

func TestP7_8TheLater(t *testing.T) {
	p := place(1, 5, 0, 1)
	d := blank(t, 84)
	file.Write(d, p, api.FLog, 8, 3, []byte("elder"))
	d.Flush()
	for _, f := range [][]api.Fate{{{Keep: 1}, {}}, {{}, {Keep: 1}}, {{Keep: 1}, {Keep: 1}}} {
		file.Write(d, p, api.FLog, 9, 3, []byte("later"))
		c, _ := d.Crash(f...)
		if b, epoch, e := file.Read(c, p, api.FLog, 3); e != api.OK || epoch != 9 || string(b) != "later" {
			t.Error(f, b, epoch, e)
		}
		d, _ = d.Crash()
	}
	if b, epoch, _ := file.Read(d, p, api.FLog, 3); string(b) != "elder" || epoch != 8 {
		t.Error(b, epoch)
	}
}

func TestP7_9Apart(t *testing.T) {
	d := blank(t, 84)
	files := []api.Place{place(1, 1, 0, 1, 2, 3), place(2, 1, 9, 4), place(3, 1, 8, 5, 7, 6)}
	for _, p := range files {
		for i := range file.Frames(p) {
			file.Write(d, p, api.FLog, 1, i, []byte{byte(p.ID), byte(i)})
		}
	}
	for _, p := range files {
		for i := range file.Frames(p) {
			file.Write(d, p, api.FLog, 2, i, []byte{byte(p.ID), byte(i), 7})
			for _, o := range files {
				for k := range file.Frames(o) {
					want := []byte{byte(o.ID), byte(k)}
					if o.ID == p.ID && k == i {
						want = append(want, 7)
					}
					if b, _, e := file.Read(d, o, api.FLog, k); e != api.OK || !bytes.Equal(b, want) {
						t.Fatal(p.ID, i, o.ID, k, b, e)
					}
				}
			}
			file.Write(d, p, api.FLog, 2, i, []byte{byte(p.ID), byte(i)})
		}
	}
}

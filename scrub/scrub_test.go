package scrub_test

import (
	"bytes"
	"math"
	"math/rand/v2"
	"reflect"
	"slices"
	"testing"

	"lien/api"
	"lien/disk"
	"lien/file"
	"lien/scrub"
	"lien/super"
)

// place is one of n pairs, from a plot on.
func place(id, from, n int) api.Place {
	p := api.Place{ID: id, Epoch: 2}
	for i := range n {
		p.Pairs = append(p.Pairs, api.Pair{A: from + 2*i, B: from + 2*i + 1})
	}
	return p
}

// parts are three files, or their beginnings.
func parts() []api.Part {
	return []api.Part{{Place: place(1, 0, 1), Kind: api.FManifest, Frames: 5}, {Place: place(2, 8, 2), Kind: api.FLog, Frames: 16}, {Place: place(3, 2, 1), Kind: api.FTable, Frames: 8}}
}

// payload is what stands in a frame.
func payload(p api.Part, i int) []byte { return []byte{byte(p.Place.ID), byte(i), 7} }

// laid is a disk with two superblocks, and those parts.
func laid(t *testing.T) *disk.Disk {
	t.Helper()
	d, e := disk.New(200)
	if e != api.OK {
		t.Fatal(e)
	}
	for gen := 1; gen < 3; gen++ {
		if e := super.Save(d, api.Super{Gen: gen, Epoch: gen, Man: api.Place{ID: 1, Epoch: 1, Pairs: []api.Pair{{A: 0, B: 1}}}}); e != api.OK {
			t.Fatal(e)
		}
	}
	for _, p := range parts() {
		for i := range p.Frames {
			if e := file.Write(d, p.Place, p.Kind, 3, i, payload(p, i)); e != api.OK {
				t.Fatal(e)
			}
		}
	}
	d.Flush()
	return d
}

// spoil turns a bit of a copy of a frame: 0 is A, 1 is B.
func spoil(d *disk.Disk, p api.Part, i, which int) {
	a, b, _ := file.Sectors(p.Place, i)
	d.Rot([]int{a, b}[which], 17, 64)
}

func TestP18_1Frames(t *testing.T) {
	for _, p := range parts() {
		d := laid(t)
		done := d.Done()
		if s, e := scrub.Frames(d, p); e != api.OK || s != (api.Scrubbed{Looked: p.Frames}) || d.Done() != done {
			t.Error(s, e)
		}
	}
	p := parts()[2]
	d := laid(t)
	spoil(d, p, 2, 1)
	spoil(d, p, 5, 0)
	spoil(d, p, 5, 1)
	done := d.Done()
	if s, e := scrub.Frames(d, p); e != api.OK || s != (api.Scrubbed{Looked: 8, Mended: 1, Lost: 1}) || d.Done() != done+1 || len(d.Loose()) != 1 {
		t.Error(s, e)
	}
	if l, e := scrub.Bad(d, p); e != api.OK || !slices.Equal(l, []api.Stamp{{File: 3, Epoch: 2, Index: 5}}) {
		t.Error(l, e)
	}
	p.Frames = 2
	if s, e := scrub.Frames(d, p); e != api.OK || s.Looked != 2 {
		t.Error(s, e)
	}
	both := parts()[1]
	a, _, _ := file.Sectors(both.Place, 0)
	b, _ := d.Read(a)
	file.Write(d, both.Place, both.Kind, 9, 0, []byte("later"))
	d.Write(a, b)
	if s, _ := scrub.Frames(d, both); s.Mended != 1 {
		t.Error("an elder copy is mended", s)
	}
}

func TestP18_1FramesRefused(t *testing.T) {
	d := laid(t)
	p := parts()[0]
	for _, n := range []int{math.MinInt, -1, 9, math.MaxInt} {
		p.Frames = n
		if s, e := scrub.Frames(nil, p); e != api.ErrRange || s != (api.Scrubbed{}) {
			t.Error(n, e)
		}
	}
	p.Frames = 0
	for _, x := range []api.Part{p, {}, {Kind: 99}} {
		if s, e := scrub.Frames(nil, x); e != api.OK || s != (api.Scrubbed{}) {
			t.Error("nothing is asked of the disk", e)
		}
	}
	p.Frames = 1
	if s, e := scrub.Frames(nil, p); e != api.ErrNil || s.Looked != 0 {
		t.Error(e)
	}
	p.Kind = 0
	if _, e := scrub.Frames(d, p); e != api.ErrArg {
		t.Error(e)
	}
	if _, e := scrub.Frames(d, api.Part{Place: place(0, 0, 1), Kind: api.FLog, Frames: 8}); e != api.ErrFile {
		t.Error(e)
	}
	q := parts()[1]
	spoil(d, q, 0, 0)
	spoil(d, q, 9, 1)
	for n := range 2 {
		c, _ := d.Crash()
		c.Fuse(n)
		if s, e := scrub.Frames(c, q); e != api.ErrDown || s != (api.Scrubbed{}) || c.Done() != n {
			t.Error(n, e, s)
		}
	}
}

func TestP18_2Pass(t *testing.T) {
	d := laid(t)
	done := d.Done()
	if s, e := scrub.Pass(d, parts()...); e != api.OK || s != (api.Scrubbed{Looked: 29}) || d.Done() != done+1 {
		t.Error(s, e)
	}
	d.Rot(1, 20, 1)
	d.Rot(2, 20, 1)
	for i, p := range parts() {
		spoil(d, p, i, i%2)
		spoil(d, p, 4, 0)
		spoil(d, p, 4, 1)
	}
	done = d.Done()
	if s, e := scrub.Pass(d, parts()...); e != api.OK || s != (api.Scrubbed{Looked: 29, Mended: 4, Lost: 3}) || d.Done() != done+5 || len(d.Loose()) > 0 {
		t.Error(s, e)
	}
	if s, e := scrub.Pass(d); e != api.OK || s != (api.Scrubbed{}) {
		t.Error(s, e)
	}
	d.Rot(1, 20, 1)
	if s, e := scrub.Pass(d); e != api.OK || s != (api.Scrubbed{Mended: 1}) || len(d.Loose()) > 0 {
		t.Error(s, e)
	}
}

func TestP18_2PassRefused(t *testing.T) {
	l := parts()
	l[2].Frames = 9
	d := laid(t)
	d.Rot(1, 20, 1)
	spoil(d, l[0], 0, 0)
	done := d.Done()
	if s, e := scrub.Pass(d, l...); e != api.ErrRange || s != (api.Scrubbed{}) || d.Done() != done {
		t.Error(s, e)
	}
	if _, e := scrub.Pass(nil, l...); e != api.ErrRange {
		t.Error(e)
	}
	if _, e := scrub.Pass(nil); e != api.ErrNil {
		t.Error(e)
	}
	none, _ := disk.New(200)
	if s, e := scrub.Pass(none, parts()...); e != api.ErrNone || s != (api.Scrubbed{}) {
		t.Error(e)
	}
	bad := parts()
	bad[1].Kind = 7
	if s, e := scrub.Pass(laid(t), bad...); e != api.ErrArg || s != (api.Scrubbed{}) {
		t.Error(e)
	}
	for n := range 3 {
		c, _ := d.Crash()
		c.Fuse(n)
		if s, e := scrub.Pass(c, parts()...); e != api.ErrDown || s != (api.Scrubbed{}) || c.Done() != n {
			t.Error(n, s, e)
		}
	}
}

// TestP18_2PassWithAFuse: the disk is down behind what super.Mend wrote, which tells no error; the first error is that of what comes behind.
func TestP18_2PassWithAFuse(t *testing.T) {
	none, wrong, long := parts()[0], parts()[0], parts()[0]
	none.Frames, wrong.Place.ID, long.Kind = 0, 0, 9
	for spoilt := range 2 {
		for i, x := range []struct {
			l    []api.Part
			want api.Errno
		}{
			{nil, api.ErrDown}, {parts(), api.ErrDown}, {[]api.Part{none}, api.ErrDown}, {[]api.Part{none, wrong}, api.ErrFile}, {[]api.Part{long, wrong}, api.ErrArg}, {[]api.Part{parts()[1], wrong}, api.ErrDown},
		} {
			d := laid(t)
			d.Rot(spoilt, 20, 1)
			d.Fuse(1)
			if s, e := scrub.Pass(d, x.l...); e != x.want || s != (api.Scrubbed{}) || d.Done() != laid(t).Done()+1 {
				t.Error(spoilt, i, s, e)
			}
		}
	}
}

func TestP18_3Bad(t *testing.T) {
	d := laid(t)
	if l, e := scrub.Bad(d, parts()...); e != api.OK || len(l) > 0 {
		t.Error(l, e)
	}
	var want []api.Stamp
	for _, p := range parts() {
		for i := range p.Frames {
			spoil(d, p, i, i%2)
			if i%3 == 0 {
				spoil(d, p, i, 1-i%2)
				want = append(want, api.Stamp{File: p.Place.ID, Epoch: 2, Index: i})
			}
		}
	}
	done := d.Done()
	if l, e := scrub.Bad(d, parts()...); e != api.OK || !slices.Equal(l, want) || d.Done() != done {
		t.Error(l, e)
	}
	l := parts()
	l[2].Frames = -1
	if x, e := scrub.Bad(d, l...); e != api.ErrRange || len(x) > 0 {
		t.Error(e)
	}
	l[2].Frames, l[2].Kind = 8, 0
	if x, e := scrub.Bad(d, l...); e != api.ErrArg || len(x) > 0 {
		t.Error(e)
	}
	if x, e := scrub.Bad(nil); e != api.OK || len(x) > 0 {
		t.Error(e)
	}
	if x, e := scrub.Bad(nil, parts()...); e != api.ErrNil || len(x) > 0 {
		t.Error(e)
	}
	d.Fuse(0)
	if x, e := scrub.Bad(d, parts()...); e != api.ErrDown || len(x) > 0 {
		t.Error(e)
	}
}

// rotten spoils one copy of each of the frames, and of the newest superblock.
func rotten(r *rand.Rand, d *disk.Disk) {
	d.Rot(r.IntN(2), r.IntN(128), byte(1+r.IntN(255)))
	for _, p := range parts() {
		for i := range p.Frames {
			a, b, _ := file.Sectors(p.Place, i)
			d.Rot([]int{a, b}[r.IntN(2)], r.IntN(128), byte(1+r.IntN(255)))
		}
	}
}

// whole tells whether all is read as it was, and, if asked, whether both copies are whole and alike.
func whole(t *testing.T, d *disk.Disk, both bool) {
	t.Helper()
	if s, e := super.Load(d); e != api.OK || s.Gen != 2 {
		t.Fatal(s, e)
	}
	for _, p := range parts() {
		for i := range p.Frames {
			if b, epoch, e := file.Read(d, p.Place, p.Kind, i); e != api.OK || epoch != 3 || !bytes.Equal(b, payload(p, i)) {
				t.Fatal(p.Place.ID, i, e)
			}
			x, y, _ := file.Whole(d, p.Place, p.Kind, i)
			a, b, _ := file.Sectors(p.Place, i)
			one, _ := d.Read(a)
			two, _ := d.Read(b)
			if both && (!x || !y || !bytes.Equal(one, two)) {
				t.Fatal(p.Place.ID, i, x, y)
			}
		}
	}
}

func TestP18_4Mended(t *testing.T) {
	r := rand.New(rand.NewPCG(18, 4))
	for range 200 {
		d := laid(t)
		rotten(r, d)
		if s, e := scrub.Pass(d, parts()...); e != api.OK || s != (api.Scrubbed{Looked: 29, Mended: 30}) {
			t.Fatal(s, e)
		}
		whole(t, d, true)
		if s, e := scrub.Pass(d, parts()...); e != api.OK || s != (api.Scrubbed{Looked: 29}) {
			t.Fatal(s, e)
		}
	}
}

func TestP18_5Lost(t *testing.T) {
	r := rand.New(rand.NewPCG(18, 5))
	for range 200 {
		d := laid(t)
		rotten(r, d)
		var lost []int
		for _, p := range parts() {
			for i := range p.Frames {
				if r.IntN(5) == 0 {
					for which := range 2 {
						if x, y, _ := file.Whole(d, p.Place, p.Kind, i); which == 0 && x || which == 1 && y {
							spoil(d, p, i, which)
						}
					}
					a, b, _ := file.Sectors(p.Place, i)
					lost = append(lost, a, b)
				}
			}
		}
		ahead, _ := scrub.Bad(d, parts()...)
		before := make([][]byte, d.Size())
		for at := range before {
			before[at], _ = d.Read(at)
		}
		s, e := scrub.Pass(d, parts()...)
		behind, _ := scrub.Bad(d, parts()...)
		if e != api.OK || s.Lost != len(ahead) || 2*s.Lost != len(lost) || !reflect.DeepEqual(ahead, behind) {
			t.Fatal(s, e, ahead, behind)
		}
		for _, at := range lost {
			if b, _ := d.Read(at); !bytes.Equal(b, before[at]) {
				t.Fatal("what is lost is not touched")
			}
		}
	}
}

func TestP18_6Crash(t *testing.T) {
	r := rand.New(rand.NewPCG(18, 6))
	for range 400 {
		d := laid(t)
		rotten(r, d)
		d.Fuse(r.IntN(33))
		_, e := scrub.Pass(d, parts()...)
		var fates []api.Fate
		for _, l := range d.Loose() {
			f := api.Fate{Keep: r.IntN(l.Many + 1)}
			if f.Keep < l.Many && r.IntN(2) == 0 {
				f.Cut = r.IntN(128)
			}
			fates = append(fates, f)
		}
		c, _ := d.Crash(fates...)
		whole(t, c, e == api.OK)
	}
}

package manifest_test

import (
	"bytes"
	"math"
	"math/rand/v2"
	"reflect"
	"slices"
	"testing"

	"lien/api"
	"lien/disk"
	"lien/edit"
	"lien/manifest"
	"lien/super"
	"lien/wal"
)

// blank is a disk that must be made.
func blank(t *testing.T, sectors int) *disk.Disk {
	t.Helper()
	d, e := disk.New(sectors)
	if e != api.OK {
		t.Fatal(e)
	}
	return d
}

// place is one of n pairs, from a plot on.
func place(id, epoch, from, n int) api.Place {
	p := api.Place{ID: id, Epoch: epoch}
	for i := range n {
		p.Pairs = append(p.Pairs, api.Pair{A: from + 2*i, B: from + 2*i + 1})
	}
	return p
}

// first is the superblock ahead of the first one.
func first() api.Super { return api.Super{Epoch: 1} }

// some is a version with a log and a table.
func some() api.Version {
	return api.Version{Next: 9, Seq: 7, Logs: []api.Log{{Place: place(5, 1, 60, 1), Sealed: 2}, {Place: place(6, 1, 62, 1), Sealed: -1}},
		Tables: []api.Table{{Place: place(4, 1, 64, 1), Size: 50, Count: 3, Low: "a", High: "b", Top: 6}}}
}

// created is a manifest of a version, at a place of n pairs, that must be made.
func created(t *testing.T, d *disk.Disk, n int, v api.Version) *manifest.Manifest {
	t.Helper()
	m, e := manifest.Create(d, first(), place(2, 1, 0, n), v)
	if e != api.OK || m == nil {
		t.Fatal(e)
	}
	return m
}

// loads tells whether the superblock of a disk, and the manifest that it names, have a version, in an epoch.
func loads(t *testing.T, d *disk.Disk, epoch int, want api.Version) *manifest.Manifest {
	t.Helper()
	s, e := super.Load(d)
	if e != api.OK {
		t.Fatal(e)
	}
	m, e := manifest.Load(d, s, epoch)
	if e != api.OK || !edit.Same(m.Version(), want) || !reflect.DeepEqual(m.Super(), s) || m.Epoch() != epoch {
		t.Fatal(e, m.Version())
	}
	return m
}

func TestP16_1Create(t *testing.T) {
	d := blank(t, 600)
	m := created(t, d, 2, some())
	want := api.Super{Gen: 1, Epoch: 1, Man: place(2, 1, 0, 2)}
	if !edit.Same(m.Version(), some()) || !reflect.DeepEqual(m.Super(), want) || m.Epoch() != 1 || len(d.Loose()) > 0 {
		t.Error(m.Version(), m.Super())
	}
	l, r, e := wal.Open(d, place(2, 1, 0, 2), api.FManifest, 1)
	b, _ := edit.Bytes(edit.Make(some())...)
	if e != api.OK || len(r) != 1 || !bytes.Equal(r[0], b) || !reflect.DeepEqual(l.Part(), m.Part()) || m.Part().Frames != 1 {
		t.Error(r, e, m.Part())
	}
	if s, e := super.Load(d); e != api.OK || !reflect.DeepEqual(s, want) {
		t.Error(s, e)
	}
	o, e := manifest.Create(blank(t, 600), api.Super{Gen: api.MaxStamp - 1, Epoch: 5, Man: place(-7, 0, 0, 0)}, place(1, 4, 3, 8), api.Version{Next: 1})
	if e != api.OK || o.Super().Gen != api.MaxStamp || o.Epoch() != 5 || o.Super().Epoch != 5 {
		t.Error(e)
	}
}

func TestP16_1CreateRefused(t *testing.T) {
	full := blank(t, 600)
	l, _, _ := wal.Open(full, place(2, 1, 0, 1), api.FManifest, 1)
	l.Add([]byte("x"))
	down := blank(t, 600)
	down.Fuse(0)
	big := api.Version{Next: 900, Seq: api.MaxSeq}
	for i := range 128 {
		big.Tables = append(big.Tables, api.Table{Place: place(300+i, 1, 100+2*i, 1), Size: 500, Count: 1 << 20, Low: string(bytes.Repeat([]byte{byte(i)}, 64)), High: string(bytes.Repeat([]byte{byte(i)}, 64)), Top: api.MaxSeq})
	}
	for i, x := range []struct {
		d    *disk.Disk
		s    api.Super
		p    api.Place
		v    api.Version
		want api.Errno
	}{
		{nil, api.Super{Gen: -1}, api.Place{}, api.Version{}, api.ErrVersion},
		{nil, api.Super{Gen: -1, Epoch: 1}, place(2, 1, 0, 1), some(), api.ErrSuper},
		{nil, api.Super{Gen: math.MinInt, Epoch: 1}, place(2, 1, 0, 1), some(), api.ErrSuper},
		{nil, api.Super{Gen: api.MaxStamp, Epoch: 1}, place(2, 1, 0, 1), some(), api.ErrSuper},
		{nil, api.Super{Gen: math.MaxInt, Epoch: 1}, place(2, 1, 0, 1), some(), api.ErrSuper},
		{nil, api.Super{}, place(2, 1, 0, 1), some(), api.ErrSuper},
		{nil, first(), api.Place{}, some(), api.ErrSuper},
		{nil, first(), place(2, 2, 0, 1), some(), api.ErrSuper},
		{nil, first(), place(2, 1, 0, 9), some(), api.ErrSuper},
		{nil, first(), place(2, 1, 510, 1), some(), api.ErrSuper},
		{nil, first(), place(2, 1, 0, 1), some(), api.ErrNil},
		{&disk.Disk{}, first(), place(2, 1, 0, 1), some(), api.ErrNil},
		{full, first(), place(2, 1, 100, 1), some(), api.ErrFile},
		{full, first(), place(2, 1, 0, 1), some(), api.ErrManifest},
		{blank(t, 600), first(), place(2, 1, 0, 1), big, api.ErrLong},
		{down, first(), place(2, 1, 0, 1), some(), api.ErrDown},
	} {
		done := x.d.Done()
		if m, e := manifest.Create(x.d, x.s, x.p, x.v); e != x.want || m != nil || x.d.Done() != done {
			t.Error(i, e)
		}
	}
	big.Tables = big.Tables[:20]
	if m, e := manifest.Create(blank(t, 600), first(), place(2, 1, 0, 1), big); e != api.ErrFull || m != nil {
		t.Error(e)
	}
	for n := range 7 {
		d := blank(t, 600)
		d.Fuse(n)
		m, e := manifest.Create(d, first(), place(2, 1, 0, 1), some())
		want := api.ErrDown
		if n == 6 {
			want = api.OK
		}
		if e != want || (m != nil) != (e == api.OK) || d.Done() != n {
			t.Error(n, e)
		}
	}
}

// laid is a disk with a log of these records at the superblock's place.
func laid(t *testing.T, records ...[]byte) (*disk.Disk, api.Super) {
	t.Helper()
	d, s := blank(t, 600), api.Super{Gen: 3, Epoch: 2, Man: place(2, 1, 0, 2)}
	l, _, _ := wal.Open(d, s.Man, api.FManifest, 2)
	if e := l.Add(records...); e != api.OK {
		t.Fatal(e)
	}
	return d, s
}

func TestP16_2Load(t *testing.T) {
	bytesOf := func(l ...api.Edit) []byte {
		b, _ := edit.Bytes(l...)
		return b
	}
	all := bytesOf(edit.Make(some())...)
	for i, x := range []struct {
		records [][]byte
		want    api.Version
		e       api.Errno
	}{
		{[][]byte{all}, some(), api.OK},
		{[][]byte{bytesOf()}, api.Version{Next: 1}, api.OK},
		{[][]byte{bytesOf(api.Edit{Kind: api.ENext, N: 3}), bytesOf(), bytesOf(api.Edit{Kind: api.ESeq, N: 4})}, api.Version{Next: 3, Seq: 4}, api.OK},
		{nil, api.Version{}, api.ErrManifest},
		{[][]byte{{}}, api.Version{}, api.ErrManifest},
		{[][]byte{all, {7}}, api.Version{}, api.ErrManifest},
		{[][]byte{all, append(bytes.Clone(all), 0)}, api.Version{}, api.ErrManifest},
		{[][]byte{all, all}, api.Version{}, api.ErrManifest},
		{[][]byte{bytesOf(api.Edit{Kind: api.EDropLog, ID: 3})}, api.Version{}, api.ErrManifest},
	} {
		d, s := laid(t, x.records...)
		m, e := manifest.Load(d, s, 9)
		if e != x.e || (m != nil) != (e == api.OK) || !edit.Same(m.Version(), x.want) {
			t.Error(i, e, m.Version())
		}
		if e == api.OK && (m.Epoch() != 9 || !reflect.DeepEqual(m.Super(), s) || m.Part().Frames == 0) {
			t.Error(i, m.Epoch(), m.Super())
		}
	}
	d, s := laid(t, all)
	for _, x := range []struct {
		d     *disk.Disk
		do    func(s *api.Super)
		epoch int
		want  api.Errno
	}{
		{nil, func(*api.Super) {}, 2, api.ErrNil}, {d, func(s *api.Super) { s.Man.ID = 0 }, 2, api.ErrFile}, {d, func(*api.Super) {}, 0, api.ErrArg}, {d, func(*api.Super) {}, api.MaxStamp + 1, api.ErrArg},
		{d, func(*api.Super) {}, 1, api.ErrManifest}, {d, func(s *api.Super) { s.Man.ID = 3 }, 2, api.ErrManifest}, {d, func(s *api.Super) { s.Gen, s.Epoch = -4, -5 }, 2, api.OK},
	} {
		y := s
		x.do(&y)
		if m, e := manifest.Load(x.d, y, x.epoch); e != x.want || (m != nil) != (e == api.OK) {
			t.Error(e, x.want)
		}
	}
	d.Fuse(0)
	if m, e := manifest.Load(d, s, 2); e != api.ErrDown || m != nil {
		t.Error(e)
	}
}

func TestP16_3Add(t *testing.T) {
	d := blank(t, 600)
	m, _ := manifest.Create(d, first(), place(2, 1, 0, 1), api.Version{Next: 3})
	if m.Part().Frames != 1 || m.Super().Gen != 1 || m.Add(api.Edit{Kind: api.ENext, N: 5}) != api.OK {
		t.Error(m.Part())
	}
	if m.Part().Frames != 2 || m.Version().Next != 5 {
		t.Error(m.Version())
	}
	done := d.Done()
	if m.Add() != api.OK || d.Done() != done || m.Part().Frames != 2 {
		t.Error("no edits: nothing")
	}
	loads(t, d, 1, api.Version{Next: 5})
	x := edit.Make(some())
	if m.Add(x...) != api.OK || !edit.Same(m.Version(), some()) || m.Part().Frames != 3 {
		t.Error("all at once")
	}
	loads(t, d, 4, some())
}

func TestP16_3AddRefused(t *testing.T) {
	d := blank(t, 600)
	m := created(t, d, 8, some())
	same := func(n int) []api.Edit { return slices.Repeat([]api.Edit{{Kind: api.ESeq, N: 7}}, n) }
	var long []api.Edit
	for i := range 40 {
		long = append(long, api.Edit{Kind: api.EAddLog, Place: place(10+i, 1, 130, 64)}, api.Edit{Kind: api.EDropLog, ID: 10 + i})
	}
	done := d.Done()
	for i, x := range []struct {
		l []api.Edit
		e api.Errno
	}{
		{[]api.Edit{{}}, api.ErrEdit}, {[]api.Edit{{Kind: api.ENext, N: 8}}, api.ErrEdit}, {append(same(300), api.Edit{}), api.ErrEdit}, {same(257), api.ErrMany}, {long, api.ErrLong},
	} {
		if e := m.Add(x.l...); e != x.e || !edit.Same(m.Version(), some()) || d.Done() != done || m.Fits(x.l...) {
			t.Error(i, e)
		}
	}
	if !m.Fits(same(256)...) || m.Add(same(256)...) != api.OK {
		t.Error("256 edits")
	}
	for m.Fits(same(40)...) {
		if m.Add(same(40)...) != api.OK {
			t.Fatal("it fits")
		}
	}
	frames := m.Part().Frames
	if m.Add(same(40)...) != api.ErrFull || m.Part().Frames != frames || !edit.Same(m.Version(), some()) || !m.Fits() || m.Add() != api.OK {
		t.Error("full")
	}
	loads(t, d, 3, some())
}

func TestP16_3Fits(t *testing.T) {
	d := blank(t, 600)
	m := created(t, d, 1, api.Version{Next: 1})
	for n := 1; ; n++ {
		x := api.Edit{Kind: api.ENext, N: n}
		fits := m.Fits(x)
		e := m.Add(x)
		if fits != (e == api.OK) || e != api.OK && e != api.ErrFull {
			t.Fatal(n, fits, e)
		}
		if e == api.ErrFull {
			if n != 8 {
				t.Error(n)
			}
			break
		}
	}
	d.Fuse(0)
	o := created(t, blank(t, 600), 1, api.Version{Next: 1})
	if !o.Fits() || o.Fits(api.Edit{}) {
		t.Error("fits")
	}
}

func TestP16_3AddThatIsCutOff(t *testing.T) {
	for n := range 4 {
		d := blank(t, 600)
		m := created(t, d, 1, some())
		d.Fuse(n)
		x := api.Edit{Kind: api.ENext, N: 50}
		if !m.Fits(x) {
			t.Error("what the disk will say does not matter")
		}
		e := m.Add(x)
		if (e == api.OK) != (n == 3) || e != api.OK && e != api.ErrDown || (m.Version().Next == 50) != (n == 3) {
			t.Error(n, e)
		}
	}
}

func TestP16_4Switch(t *testing.T) {
	d := blank(t, 600)
	created(t, d, 1, some())
	m := loads(t, d, 5, some())
	m.Add(api.Edit{Kind: api.ESeq, N: 8})
	was, e := m.Switch(place(3, 5, 4, 2))
	want := api.Super{Gen: 2, Epoch: 5, Man: place(3, 5, 4, 2)}
	if e != api.OK || !reflect.DeepEqual(was, place(2, 1, 0, 1)) || !reflect.DeepEqual(m.Super(), want) || m.Epoch() != 5 || m.Version().Seq != 8 || m.Part().Frames != 1 {
		t.Error(was, e, m.Super())
	}
	if m.Add(api.Edit{Kind: api.ESeq, N: 9}) != api.OK {
		t.Error("it goes on there")
	}
	v := some()
	v.Seq = 9
	o := loads(t, d, 6, v)
	if was, e := o.Switch(place(9, 6, 0, 1)); e != api.OK || !reflect.DeepEqual(was, place(3, 5, 4, 2)) {
		t.Error(was, e)
	}
	if s := o.Super(); s.Gen != 3 || s.Epoch != 6 {
		t.Error(s)
	}
	loads(t, d, 6, v)
}

func TestP16_4SwitchRefused(t *testing.T) {
	d := blank(t, 600)
	m := created(t, d, 2, some())
	l, _, _ := wal.Open(d, place(7, 1, 20, 1), api.FManifest, 1)
	l.Add([]byte("x"))
	done := d.Done()
	for i, x := range []struct {
		p api.Place
		e api.Errno
	}{
		{place(3, 1, 3, 1), api.ErrManifest}, {place(3, 1, 0, 1), api.ErrManifest}, {place(0, 0, 2, 9), api.ErrManifest},
		{api.Place{ID: 3, Epoch: 1, Pairs: []api.Pair{{A: 9, B: 1}}}, api.ErrManifest}, {api.Place{ID: 3, Epoch: 1, Pairs: []api.Pair{{A: 8, B: 9}, {A: 2, B: 10}}}, api.ErrManifest},
		{api.Place{}, api.ErrSuper}, {place(3, 2, 4, 1), api.ErrSuper}, {place(3, 1, 4, 9), api.ErrSuper}, {place(3, 1, 80, 1), api.ErrFile}, {place(7, 1, 20, 1), api.ErrManifest},
	} {
		was, e := m.Switch(x.p)
		if e != x.e || !reflect.DeepEqual(was, api.Place{}) || d.Done() != done || m.Super().Gen != 1 || !edit.Same(m.Version(), some()) || m.Part().Place.ID != 2 {
			t.Error(i, e)
		}
	}
	for n := range 7 {
		d := blank(t, 600)
		m := created(t, d, 1, some())
		d.Fuse(n)
		was, e := m.Switch(place(3, 1, 4, 1))
		if (e == api.OK) != (n == 6) || e != api.OK && (e != api.ErrDown || was.ID != 0 || m.Super().Gen != 1 || m.Part().Place.ID != 2) {
			t.Error(n, e)
		}
	}
	last, _ := manifest.Create(blank(t, 600), api.Super{Gen: api.MaxStamp - 1, Epoch: 1}, place(1, 1, 0, 1), some())
	if _, e := last.Switch(place(2, 1, 4, 1)); e != api.ErrSuper {
		t.Error("no more numbers", e)
	}
}

func TestRulesNobodyMadeIt(t *testing.T) {
	for _, m := range []*manifest.Manifest{nil, {}} {
		if m.Add() != api.ErrNil || m.Add(api.Edit{}) != api.ErrNil || m.Fits() || m.Epoch() != 0 || !reflect.DeepEqual(m.Version(), api.Version{}) || !reflect.DeepEqual(m.Super(), api.Super{}) || !reflect.DeepEqual(m.Part(), api.Part{}) {
			t.Error("zero values")
		}
		if p, e := m.Switch(place(1, 1, 0, 1)); e != api.ErrNil || p.ID != 0 {
			t.Error(e)
		}
	}
}

// step is an edit by chance, which mostly can be done.
func step(r *rand.Rand, v api.Version) []api.Edit {
	l := []api.Edit{{Kind: api.ENext, N: v.Next + 1}}
	switch r.IntN(3) {
	case 0:
		l = append(l, api.Edit{Kind: api.ESeq, N: v.Seq + r.IntN(5)})
	case 1:
		l = append(l, api.Edit{Kind: api.EAddTable, Table: api.Table{Place: place(v.Next, 1, 80+2*len(v.Tables), 1), Size: 40, Count: 1, Low: "a", High: string(bytes.Repeat([]byte{'b'}, 1+r.IntN(60))), Top: 1}})
	case 2:
		if n := len(v.Tables); n > 1 {
			l = append(l, api.Edit{Kind: api.EDropTable, ID: v.Tables[n-1].Place.ID})
		}
	}
	return l
}

func TestP16_6ThereAndBack(t *testing.T) {
	r := rand.New(rand.NewPCG(16, 6))
	for range 60 {
		d := blank(t, 1600)
		m := created(t, d, 3, some())
		for epoch := 1; epoch < 6; epoch++ {
			for m.Add(step(r, m.Version())...) == api.OK && r.IntN(6) > 0 {
			}
			m = loads(t, d, epoch, m.Version())
			m = loads(t, d, epoch+1, m.Version())
		}
	}
}

// fate is what becomes of loose sectors, by chance.
func fate(r *rand.Rand, loose []api.Loose) []api.Fate {
	var out []api.Fate
	for _, l := range loose {
		f := api.Fate{Keep: r.IntN(l.Many + 1)}
		if f.Keep < l.Many && r.IntN(3) == 0 {
			f.Cut = r.IntN(128)
		}
		out = append(out, f)
	}
	return out
}

func TestP16_7AllOrNone(t *testing.T) {
	r := rand.New(rand.NewPCG(16, 7))
	for range 400 {
		d := blank(t, 1600)
		m := created(t, d, 2, some())
		for epoch := 1; epoch < 7; epoch++ {
			d.Fuse(r.IntN(14))
			var ahead, behind api.Version
			for {
				ahead, behind = m.Version(), m.Version()
				e := api.OK
				if l := step(r, ahead); r.IntN(4) > 0 && m.Fits(l...) {
					behind, _, _ = edit.Apply(ahead, l...)
					e = m.Add(l...)
				} else {
					from := 0
					if m.Part().Place.Pairs[0].A == 0 {
						from = 20
					}
					_, e = m.Switch(place(m.Super().Gen+5, epoch, from, 2))
				}
				if e == api.ErrDown {
					break
				}
				if e != api.OK {
					t.Fatal(e)
				}
			}
			d, _ = d.Crash(fate(r, d.Loose())...)
			s, e := super.Load(d)
			if e != api.OK {
				t.Fatal(e)
			}
			if m, e = manifest.Load(d, s, epoch+1); e != api.OK || !edit.Same(m.Version(), ahead) && !edit.Same(m.Version(), behind) {
				t.Fatal(epoch, e)
			}
		}
	}
}

func TestRulesOwnMemory(t *testing.T) {
	d := blank(t, 600)
	v, p := some(), place(2, 1, 0, 2)
	m, _ := manifest.Create(d, first(), p, v)
	p.Pairs[0].A, v.Logs[0].Place.Pairs[0].A = 99, 99
	m.Version().Tables[0].Place.Pairs[0].A = 98
	m.Super().Man.Pairs[0].A = 97
	m.Part().Place.Pairs[0].A = 96
	if !edit.Same(m.Version(), some()) || m.Super().Man.Pairs[0].A != 0 || m.Part().Place.Pairs[0].A != 0 {
		t.Error("memory is shared")
	}
	q := place(3, 1, 10, 2)
	was, _ := m.Switch(q)
	q.Pairs[0].A, was.Pairs[0].A = 95, 94
	if m.Super().Man.Pairs[0].A != 10 || m.Part().Place.Pairs[0].A != 10 {
		t.Error("memory is shared")
	}
	l, s := m.Version(), m.Super()
	o, _ := manifest.Load(d, s, 1)
	s.Man.Pairs[0].A = 93
	if o.Super().Man.Pairs[0].A != 10 || !edit.Same(o.Version(), l) {
		t.Error("memory is shared")
	}
}

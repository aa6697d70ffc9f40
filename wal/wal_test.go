package wal_test

import (
	"bytes"
	"math"
	"math/rand/v2"
	"reflect"
	"slices"
	"testing"

	"lien/api"
	"lien/disk"
	"lien/file"
	"lien/frag"
	"lien/wal"
)

// blank is a disk that must be made.
func blank(t *testing.T, sectors int) *disk.Disk {
	t.Helper()
	d, e := disk.New(sectors)
	if e != api.OK {
		t.Fatal(e)
	}
	return d
}

// place is one of n pairs, from a plot on.
func place(from, n int) api.Place {
	p := api.Place{ID: 1, Epoch: 1}
	for i := range n {
		p.Pairs = append(p.Pairs, api.Pair{A: from + 2*i, B: from + 2*i + 1})
	}
	return p
}

// open opens a log of the kind FLog, which must be opened.
func open(t *testing.T, d *disk.Disk, p api.Place, epoch int) (*wal.Log, [][]byte) {
	t.Helper()
	l, r, e := wal.Open(d, p, api.FLog, epoch)
	if e != api.OK || l == nil {
		t.Fatal(e)
	}
	return l, r
}

// same tells whether two lists of bytes are alike.
func same(a, b [][]byte) bool { return slices.EqualFunc(a, b, bytes.Equal) }

// texts are texts as lists of bytes.
func texts(l ...string) [][]byte {
	var out [][]byte
	for _, s := range l {
		out = append(out, []byte(s))
	}
	return out
}

func TestP9_1OpenRefused(t *testing.T) {
	d := blank(t, 84)
	good := place(0, 1)
	for _, x := range []struct {
		d     *disk.Disk
		p     api.Place
		kind  api.FrameKind
		epoch int
		want  api.Errno
	}{
		{nil, good, api.FLog, 1, api.ErrNil},
		{&disk.Disk{}, api.Place{}, 0, 0, api.ErrNil},
		{d, api.Place{}, 0, 0, api.ErrFile},
		{d, place(0, 6), api.FLog, 1, api.ErrFile},
		{d, api.Place{ID: 1, Epoch: 1, Pairs: []api.Pair{{A: 1, B: 1}}}, api.FLog, 1, api.ErrFile},
		{d, good, 0, 1, api.ErrArg},
		{d, good, 5, 1, api.ErrArg},
		{d, good, -1, 1, api.ErrArg},
		{d, good, api.FLog, 0, api.ErrArg},
		{d, api.Place{ID: 1, Epoch: 4, Pairs: good.Pairs}, api.FLog, 3, api.ErrArg},
		{d, good, api.FLog, api.MaxStamp + 1, api.ErrArg},
		{d, good, api.FLog, math.MinInt, api.ErrArg},
	} {
		l, r, e := wal.Open(x.d, x.p, x.kind, x.epoch)
		if e != x.want || l != nil || len(r) > 0 {
			t.Error(x, e)
		}
	}
	d.Fuse(0)
	if l, r, e := wal.Open(d, good, api.FLog, 1); e != api.ErrDown || l != nil || len(r) > 0 {
		t.Error(e)
	}
}

func TestP9_1OpenOfNothing(t *testing.T) {
	for _, kind := range []api.FrameKind{api.FSuper, api.FLog, api.FTable, api.FManifest} {
		l, r, e := wal.Open(blank(t, 84), place(0, 2), kind, api.MaxStamp)
		if e != api.OK || len(r) > 0 || l.Frames() != 0 || l.Left() != 16 || l.Records() != 0 {
			t.Error(kind, e, r)
		}
	}
}

// lays writes frames of some epochs, one payload each; 0: none there.
func lays(d *disk.Disk, p api.Place, kind api.FrameKind, epochs ...int) {
	for i, epoch := range epochs {
		if epoch > 0 {
			file.Write(d, p, kind, epoch, i, []byte{1, 1, byte(i)})
		}
	}
}

func TestP9_1WhereItEnds(t *testing.T) {
	for _, x := range []struct {
		epochs []int
		epoch  int
		n      int
	}{
		{[]int{1, 1, 1}, 1, 3}, {[]int{1, 0, 1}, 1, 1}, {[]int{0, 1, 1}, 1, 0}, {[]int{1, 2, 2, 5}, 5, 4}, {[]int{1, 2, 2, 5}, 4, 3},
		{[]int{2, 2, 1, 3}, 5, 2}, {[]int{5, 1}, 4, 0}, {[]int{3, 4, 3, 4, 4}, 9, 2}, {[]int{1, 1, 1, 1, 1, 1, 1, 1}, 1, 8}, {[]int{1, 9, 1}, 3, 1},
	} {
		d, p := blank(t, 84), place(0, 1)
		lays(d, p, api.FLog, x.epochs...)
		l, r := open(t, d, p, x.epoch)
		if len(r) != x.n || l.Frames() != x.n || l.Records() != x.n || l.Left() != 8-x.n {
			t.Error(x, len(r), l.Frames())
		}
	}
	d, p := blank(t, 84), place(0, 1)
	lays(d, p, api.FTable, 1)
	if _, r := open(t, d, p, 1); len(r) > 0 {
		t.Error("of another kind")
	}
	p.ID = 2
	lays(d, p, api.FLog, 1, 1)
	if _, r := open(t, d, place(0, 1), 1); len(r) > 0 {
		t.Error("of another file")
	}
}

func TestP9_1PayloadsThatEndIt(t *testing.T) {
	d, p := blank(t, 84), place(0, 1)
	for i, b := range texts("\x01\x01a", "\x02\x01b", "\x01\x01c\x04\x01d", "\x01\x01e") {
		file.Write(d, p, api.FLog, 1, i, b)
	}
	l, r := open(t, d, p, 1)
	if !same(r, texts("a")) || l.Frames() != 2 || l.Records() != 1 {
		t.Error(r, l.Frames())
	}
	if l.Add([]byte("f")) != api.OK {
		t.Error("add")
	}
	if l, r := open(t, d, p, 1); !same(r, texts("a", "f", "e")) || l.Records() != 3 {
		t.Error(r)
	}
}

func TestP9_2Add(t *testing.T) {
	d, p := blank(t, 84), place(0, 1)
	l, _ := open(t, d, p, 1)
	if l.Add([]byte("a"), []byte("b")) != api.OK || l.Frames() != 1 || l.Records() != 2 || l.Left() != 7 || d.Done() != 3 {
		t.Error(l.Frames(), l.Records(), d.Done())
	}
	if b, epoch, e := file.Read(d, p, api.FLog, 0); e != api.OK || epoch != 1 || !bytes.Equal(b, []byte{1, 1, 97, 1, 1, 98}) {
		t.Error(b, e)
	}
	if l.Add(make([]byte, 200)) != api.OK || l.Frames() != 3 || l.Records() != 3 || len(d.Loose()) > 0 {
		t.Error(l.Frames())
	}
	m, r := open(t, d, p, 2)
	if len(r) != 3 || m.Frames() != 3 || len(r[2]) != 200 {
		t.Error(len(r))
	}
	done := d.Done()
	if m.Add() != api.OK || d.Done() != done || m.Frames() != 3 {
		t.Error("no records: nothing")
	}
	m.Add(nil)
	if b, epoch, e := file.Read(d, p, api.FLog, 3); e != api.OK || epoch != 2 || !bytes.Equal(b, []byte{1, 0}) {
		t.Error(b, epoch, e)
	}
}

func TestP9_2AddRefused(t *testing.T) {
	d := blank(t, 84)
	l, _ := open(t, d, place(0, 1), 1)
	l.Add([]byte("x"))
	done := d.Done()
	for _, x := range []struct {
		r [][]byte
		e api.Errno
	}{
		{make([][]byte, 257), api.ErrMany},
		{[][]byte{make([]byte, 8193)}, api.ErrLong},
		{[][]byte{make([]byte, 8192)}, api.ErrFull},
		{[][]byte{make([]byte, 7*106+1)}, api.ErrFull},
	} {
		if e := l.Add(x.r...); e != x.e || d.Done() != done || l.Frames() != 1 || l.Records() != 1 {
			t.Error(len(x.r), e)
		}
	}
	if l.Add(make([]byte, 7*106)) != api.OK || l.Left() != 0 || l.Add(nil) != api.ErrFull || l.Add() != api.OK {
		t.Error("just full")
	}
	if _, r := open(t, d, place(0, 1), 1); len(r) != 2 || len(r[1]) != 742 {
		t.Error(len(r))
	}
}

func TestP9_2AddThatIsCutOff(t *testing.T) {
	for n := range 6 {
		d := blank(t, 84)
		l, _ := open(t, d, place(0, 1), 1)
		l.Add([]byte("x"))
		d.Fuse(n)
		want, frames, records := api.ErrDown, 1, 1
		if n == 5 {
			want, frames, records = api.OK, 3, 2
		}
		if e := l.Add(make([]byte, 200)); e != want || l.Frames() != frames || l.Records() != records {
			t.Error(n, e, l.Frames())
		}
	}
}

func TestP9_3Fits(t *testing.T) {
	d := blank(t, 84)
	l, _ := open(t, d, place(0, 1), 1)
	l.Add(make([]byte, 300))
	for _, x := range []struct {
		s    []int
		want bool
	}{
		{nil, true}, {[]int{0}, true}, {[]int{-1}, false}, {[]int{5 * 106}, true}, {[]int{5*106 + 1}, false}, {[]int{8193}, false}, {[]int{math.MaxInt}, false}, {[]int{math.MinInt}, false},
		{[]int{106, 106, 106, 106, 106}, true}, {[]int{106, 106, 106, 106, 106, 0}, false}, {make([]int, 256), true}, {make([]int, 257), false},
	} {
		if l.Fits(x.s...) != x.want {
			t.Error(x.s)
		}
	}
	for l.Left() > 0 {
		l.Add(make([]byte, 100))
	}
	if !l.Fits() || l.Fits(0) {
		t.Error("full")
	}
}

func TestP9_3Part(t *testing.T) {
	d := blank(t, 84)
	p := api.Place{ID: 7, Epoch: 2, Pairs: []api.Pair{{A: 5, B: 0}, {A: 3, B: 8}}}
	l, _, _ := wal.Open(d, p, api.FManifest, 3)
	if got := l.Part(); !reflect.DeepEqual(got, api.Part{Place: p, Kind: api.FManifest}) {
		t.Error(got)
	}
	l.Add(make([]byte, 107), nil)
	if got := l.Part(); !reflect.DeepEqual(got, api.Part{Place: p, Kind: api.FManifest, Frames: 2}) {
		t.Error(got)
	}
}

func TestRulesNobodyMadeIt(t *testing.T) {
	for _, l := range []*wal.Log{nil, {}} {
		if l.Add() != api.ErrNil || l.Add(make([][]byte, 300)...) != api.ErrNil || l.Fits() || l.Frames() != 0 || l.Left() != 0 || l.Records() != 0 || !reflect.DeepEqual(l.Part(), api.Part{}) {
			t.Error("zero values")
		}
	}
}

// group is some records by chance.
func group(r *rand.Rand) [][]byte {
	var l [][]byte
	for range 1 + r.IntN(4) {
		b := make([]byte, r.IntN(1+r.IntN(250)))
		for i := range b {
			b[i] = byte(r.Uint32())
		}
		l = append(l, b)
	}
	return l
}

func TestP9_4ThereAndBack(t *testing.T) {
	r := rand.New(rand.NewPCG(9, 4))
	for range 100 {
		d, p := blank(t, 300), place(3, 6)
		var all [][]byte
		l, _ := open(t, d, p, 1)
		for epoch := 1; l.Left() > 10; {
			g := group(r)
			if l.Add(g...) == api.OK {
				all = append(all, g...)
			}
			if r.IntN(3) == 0 {
				epoch += r.IntN(3)
				frames := l.Frames()
				var got [][]byte
				if l, got = open(t, d, p, epoch); !same(got, all) || l.Frames() != frames || l.Records() != len(all) {
					t.Fatal(len(got), len(all))
				}
			}
		}
	}
}

// fate is what becomes of loose sectors, by chance.
func fate(r *rand.Rand, loose []api.Loose) []api.Fate {
	var out []api.Fate
	for _, l := range loose {
		f := api.Fate{Keep: r.IntN(l.Many + 1)}
		if f.Keep < l.Many && r.IntN(3) == 0 {
			f.Cut = r.IntN(128)
		}
		out = append(out, f)
	}
	return out
}

func TestP9_5Kept(t *testing.T) {
	r := rand.New(rand.NewPCG(9, 5))
	for range 1500 {
		d, p := blank(t, 200), place(1, 5)
		var had [][]byte
		for epoch := 1; epoch < 9; epoch++ {
			l, got := open(t, d, p, epoch)
			if !same(got, had) {
				t.Fatal(epoch, len(got), len(had))
			}
			d.Fuse(r.IntN(20))
			var g [][]byte
			for {
				g = group(r)
				if l.Add(g...) != api.OK {
					break
				}
				had = append(had, g...)
			}
			d, _ = d.Crash(fate(r, d.Loose())...)
			_, got = open(t, d, p, epoch+1)
			if len(got) < len(had) || len(got) > len(had)+len(g) || !same(got, append(slices.Clone(had), g...)[:len(got)]) {
				t.Fatal(epoch, len(got), len(had), len(g))
			}
			had = got
		}
	}
}

func TestP9_6Apart(t *testing.T) {
	r := rand.New(rand.NewPCG(9, 6))
	for range 100 {
		d := blank(t, 200)
		for at := range 200 {
			d.Write(at, bytes.Repeat([]byte{byte(at + 1)}, 128))
		}
		d.Flush()
		p := place(4, 4)
		l, _ := open(t, d, p, 1)
		for l.Left() > 0 {
			before := make([][]byte, 200)
			for at := range before {
				before[at], _ = d.Read(at)
			}
			taken := l.Frames()
			g := group(r)
			if e := l.Add(g...); e == api.ErrFull {
				break
			}
			may := map[int]int{}
			for i := taken; i < l.Frames(); i++ {
				a, b, _ := file.Sectors(p, i)
				may[a], may[b] = 1, 1
			}
			for at := range before {
				if b, _ := d.Read(at); (may[at] == 0) != bytes.Equal(b, before[at]) {
					t.Fatal(at, taken, l.Frames())
				}
			}
			if n, _ := frag.Need(len(g[0])); n > l.Frames()-taken {
				t.Fatal("too few frames")
			}
		}
	}
}

func TestRulesOwnMemory(t *testing.T) {
	d, p := blank(t, 84), place(0, 1)
	l, _ := open(t, d, p, 1)
	p.Pairs[0].A = 9
	b := []byte("abc")
	l.Add(b, b)
	part := l.Part()
	part.Place.Pairs[0].B = 8
	_, r := open(t, d, place(0, 1), 1)
	r[0][0] = 'z'
	if string(r[1]) != "abc" || l.Part().Place.Pairs[0] != (api.Pair{A: 0, B: 1}) {
		t.Error(l.Part(), r)
	}
}

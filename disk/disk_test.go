package disk_test

import (
	"bytes"
	"math"
	"math/rand/v2"
	"slices"
	"testing"

	"lien/api"
	"lien/disk"
)

// full is a sector of one byte all over.
func full(x byte) []byte { return bytes.Repeat([]byte{x}, api.Sector) }

// made is a disk that must be made.
func made(t *testing.T, sectors int) *disk.Disk {
	t.Helper()
	d, e := disk.New(sectors)
	if e != api.OK || d == nil {
		t.Fatal(sectors, e)
	}
	return d
}

// read is a sector that must be read.
func read(t *testing.T, d *disk.Disk, at int) []byte {
	t.Helper()
	b, e := d.Read(at)
	if e != api.OK || len(b) != api.Sector {
		t.Fatal(at, e, len(b))
	}
	return b
}

// crash is a disk that must come of a crash.
func crash(t *testing.T, d *disk.Disk, fates ...api.Fate) *disk.Disk {
	t.Helper()
	out, e := d.Crash(fates...)
	if e != api.OK || out == nil {
		t.Fatal(fates, e)
	}
	return out
}

func TestP3_1New(t *testing.T) {
	for _, n := range []int{math.MinInt, -1, 0, 4097, math.MaxInt} {
		if d, e := disk.New(n); e != api.ErrArg || d != nil {
			t.Error(n, e)
		}
	}
	for _, n := range []int{1, 2, 100, 4096} {
		d := made(t, n)
		if d.Size() != n || d.Done() != 0 || d.Down() || len(d.Loose()) > 0 {
			t.Error(n, d.Size(), d.Done())
		}
		if !bytes.Equal(read(t, d, n-1), full(0)) || !bytes.Equal(read(t, d, 0), full(0)) {
			t.Error("zeros at first")
		}
	}
}

func TestP3_1DoneCountsWhatToldOK(t *testing.T) {
	d := made(t, 2)
	d.Write(0, full(1))
	d.Write(2, full(1))
	d.Write(0, nil)
	d.Read(0)
	d.Flush()
	d.Rot(0, 0, 1)
	if d.Done() != 2 {
		t.Error(d.Done())
	}
	d.Fuse(1)
	d.Flush()
	d.Flush()
	if d.Done() != 3 || crash(t, d).Done() != 0 {
		t.Error(d.Done())
	}
}

func TestRulesNobodyMadeIt(t *testing.T) {
	for _, d := range []*disk.Disk{nil, {}, new(disk.Disk)} {
		if d.Size() != 0 || d.Done() != 0 || d.Down() || len(d.Loose()) > 0 {
			t.Error("zero values")
		}
		if b, e := d.Read(0); e != api.ErrNil || len(b) > 0 {
			t.Error(e)
		}
		if d.Write(0, full(0)) != api.ErrNil || d.Write(-1, nil) != api.ErrNil || d.Flush() != api.ErrNil || d.Fuse(1) != api.ErrNil || d.Fuse(-1) != api.ErrNil || d.Rot(0, 0, 0) != api.ErrNil {
			t.Error("ErrNil")
		}
		if x, e := d.Crash(); e != api.ErrNil || x != nil {
			t.Error(e)
		}
		if _, e := d.Crash(api.Fate{Keep: 9}); e != api.ErrNil {
			t.Error(e)
		}
	}
}

func TestP3_2ReadWriteFlush(t *testing.T) {
	d := made(t, 3)
	for _, at := range []int{math.MinInt, -1, 3, math.MaxInt} {
		if b, e := d.Read(at); e != api.ErrRange || len(b) > 0 {
			t.Error(at, e)
		}
		if d.Write(at, full(1)) != api.ErrRange || d.Write(at, nil) != api.ErrRange {
			t.Error(at)
		}
	}
	for _, n := range []int{0, 1, 127, 129, 256} {
		if d.Write(1, make([]byte, n)) != api.ErrArg {
			t.Error(n)
		}
	}
	if len(d.Loose()) > 0 {
		t.Error("what is refused writes nothing")
	}
	if d.Write(1, full(5)) != api.OK || d.Write(2, full(6)) != api.OK || d.Write(1, full(7)) != api.OK {
		t.Error("write")
	}
	if !bytes.Equal(read(t, d, 1), full(7)) || !bytes.Equal(read(t, d, 2), full(6)) || !bytes.Equal(read(t, d, 0), full(0)) {
		t.Error("read")
	}
	if !slices.Equal(d.Loose(), []api.Loose{{At: 1, Many: 2}, {At: 2, Many: 1}}) {
		t.Error(d.Loose())
	}
	if d.Flush() != api.OK || len(d.Loose()) > 0 || !bytes.Equal(read(t, d, 1), full(7)) || !bytes.Equal(read(t, d, 2), full(6)) {
		t.Error("flush")
	}
	if d.Flush() != api.OK || d.Done() != 5 {
		t.Error("a flush of nothing counts, too")
	}
}

func TestP3_2Down(t *testing.T) {
	d := made(t, 2)
	d.Write(0, full(1))
	d.Fuse(0)
	if b, e := d.Read(0); e != api.ErrDown || len(b) > 0 {
		t.Error(e)
	}
	if _, e := d.Read(9); e != api.ErrDown {
		t.Error(e)
	}
	if d.Write(0, full(2)) != api.ErrDown || d.Write(9, nil) != api.ErrDown || d.Flush() != api.ErrDown || d.Fuse(3) != api.ErrDown || d.Fuse(-1) != api.ErrDown {
		t.Error("all is down")
	}
	if !d.Down() || d.Done() != 1 || d.Size() != 2 || !slices.Equal(d.Loose(), []api.Loose{{At: 0, Many: 1}}) {
		t.Error("nothing changes")
	}
}

func TestP3_3Fuse(t *testing.T) {
	d := made(t, 1)
	for _, n := range []int{math.MinInt, -1, 1<<20 + 1, math.MaxInt} {
		if d.Fuse(n) != api.ErrRange || d.Down() {
			t.Error(n)
		}
	}
	if d.Fuse(1<<20) != api.OK || d.Down() || d.Fuse(2) != api.OK || d.Fuse(3) != api.OK {
		t.Error("another fuse")
	}
	for i, step := range []func() api.Errno{func() api.Errno { return d.Write(0, full(1)) }, d.Flush, func() api.Errno { return d.Write(0, full(2)) }} {
		if d.Down() || d.Write(7, nil) != api.ErrRange || d.Write(0, nil) != api.ErrArg {
			t.Error("what is refused does not burn")
		}
		read(t, d, 0)
		if step() != api.OK || d.Down() != (i == 2) {
			t.Error(i, d.Down())
		}
	}
	if d.Flush() != api.ErrDown {
		t.Error("down")
	}
	if n := crash(t, d); n.Down() || n.Flush() != api.OK || n.Flush() != api.OK || n.Flush() != api.OK || n.Flush() != api.OK {
		t.Error("a crash leaves no fuse")
	}
}

func TestP3_4Rot(t *testing.T) {
	d := made(t, 2)
	for _, x := range [][2]int{{-1, 0}, {2, 0}, {0, -1}, {0, 128}, {math.MaxInt, 0}, {0, math.MaxInt}, {math.MinInt, math.MinInt}} {
		if d.Rot(x[0], x[1], 1) != api.ErrRange {
			t.Error(x)
		}
	}
	d.Write(0, full(1))
	d.Flush()
	d.Write(0, full(9))
	if d.Rot(0, 127, 6) != api.OK || d.Rot(0, 0, 255) != api.OK || d.Rot(0, 1, 0) != api.OK {
		t.Error("rot")
	}
	if !bytes.Equal(read(t, d, 0), full(9)) {
		t.Error("what is loose does not rot")
	}
	want := full(1)
	want[127], want[0] = 7, 254
	if !bytes.Equal(read(t, crash(t, d), 0), want) {
		t.Error("what is fixed does")
	}
	d.Flush()
	if !bytes.Equal(read(t, d, 0), full(9)) {
		t.Error("a flush writes over what is rotten")
	}
	d.Fuse(0)
	if d.Rot(1, 3, 4) != api.OK || read(t, crash(t, d), 1)[3] != 4 || d.Rot(2, 0, 1) != api.ErrRange {
		t.Error("of a disk that is down, too")
	}
	if d.Rot(1, 3, 4) != api.OK || read(t, crash(t, d), 1)[3] != 0 {
		t.Error("turned back")
	}
}

func TestP3_4LooseRises(t *testing.T) {
	d := made(t, 200)
	var want []api.Loose
	for at := 198; at >= 0; at -= 3 {
		for range at%4 + 1 {
			d.Write(at, full(1))
		}
		want = append([]api.Loose{{At: at, Many: at%4 + 1}}, want...)
	}
	if !slices.Equal(d.Loose(), want) {
		t.Error(d.Loose())
	}
}

func TestP3_5Crash(t *testing.T) {
	d := made(t, 4)
	d.Write(3, full(1))
	d.Flush()
	for _, x := range []byte{2, 3, 4} {
		d.Write(3, full(x))
	}
	d.Write(1, full(9))
	for _, x := range []struct {
		fates      []api.Fate
		one, three []byte
	}{
		{nil, full(0), full(1)},
		{[]api.Fate{{}}, full(0), full(1)},
		{[]api.Fate{{Keep: 1}}, full(9), full(1)},
		{[]api.Fate{{Cut: 127}, {}}, append(full(9)[:127], 0), full(1)},
		{[]api.Fate{{Cut: 1}, {Keep: 3}}, append([]byte{9}, full(0)[:127]...), full(4)},
		{[]api.Fate{{}, {Keep: 1}}, full(0), full(2)},
		{[]api.Fate{{}, {Keep: 2, Cut: 5}}, full(0), append(full(4)[:5], full(3)[:123]...)},
		{[]api.Fate{{}, {Cut: 3}}, full(0), append(full(2)[:3], full(1)[:125]...)},
	} {
		n := crash(t, d, x.fates...)
		if !bytes.Equal(read(t, n, 1), x.one) || !bytes.Equal(read(t, n, 3), x.three) || !bytes.Equal(read(t, n, 0), full(0)) {
			t.Error(x.fates)
		}
		if n.Size() != 4 || len(n.Loose()) > 0 || n.Down() {
			t.Error("a new disk", n.Loose())
		}
	}
	if !bytes.Equal(read(t, d, 3), full(4)) || !slices.Equal(d.Loose(), []api.Loose{{At: 1, Many: 1}, {At: 3, Many: 3}}) || d.Done() != 6 {
		t.Error("the disk itself stays as it is")
	}
}

func TestP3_5CrashRefused(t *testing.T) {
	d := made(t, 4)
	d.Write(1, full(9))
	d.Write(1, full(8))
	for _, x := range []struct {
		fates []api.Fate
		e     api.Errno
	}{
		{[]api.Fate{{}, {}}, api.ErrMany},
		{[]api.Fate{{Keep: 7}, {}}, api.ErrMany},
		{[]api.Fate{{Keep: -1}}, api.ErrRange},
		{[]api.Fate{{Keep: 3}}, api.ErrRange},
		{[]api.Fate{{Keep: math.MaxInt}}, api.ErrRange},
		{[]api.Fate{{Keep: math.MinInt}}, api.ErrRange},
		{[]api.Fate{{Cut: -1}}, api.ErrRange},
		{[]api.Fate{{Cut: 128}}, api.ErrRange},
		{[]api.Fate{{Keep: 1, Cut: 128}}, api.ErrRange},
		{[]api.Fate{{Keep: 2, Cut: 1}}, api.ErrRange},
	} {
		if n, e := d.Crash(x.fates...); e != x.e || n != nil {
			t.Error(x.fates, e)
		}
	}
	if n, e := made(t, 1).Crash(api.Fate{}); e != api.ErrMany || n != nil {
		t.Error("no loose sectors", e)
	}
	d.Fuse(0)
	if !bytes.Equal(read(t, crash(t, d, api.Fate{Keep: 1, Cut: 127}), 1), append(full(8)[:127], 9)) {
		t.Error("of a disk that is down, too")
	}
	if _, e := d.Crash(api.Fate{Keep: 3}); e != api.ErrRange {
		t.Error(e)
	}
}

// history is a disk by the chapter's words: of each sector what is fixed, and all loose writes.
type history struct {
	fixed [][]byte
	loose [][][]byte
}

// some is a disk, and its history, to which things by chance were done.
func some(t *testing.T, r *rand.Rand, sectors, steps int) (*disk.Disk, *history) {
	d, h := made(t, sectors), &history{make([][]byte, sectors), make([][][]byte, sectors)}
	for i := range sectors {
		h.fixed[i] = full(0)
	}
	for range steps {
		at := r.IntN(sectors)
		switch r.IntN(8) {
		case 0:
			d.Flush()
			for i, l := range h.loose {
				if len(l) > 0 {
					h.fixed[i], h.loose[i] = l[len(l)-1], nil
				}
			}
		case 1:
			place, mask := r.IntN(api.Sector), byte(r.Uint32())
			d.Rot(at, place, mask)
			h.fixed[at] = bytes.Clone(h.fixed[at])
			h.fixed[at][place] ^= mask
		default:
			b := make([]byte, api.Sector)
			for i := range b {
				b[i] = byte(r.Uint32())
			}
			d.Write(at, b)
			h.loose[at] = append(h.loose[at], b)
		}
	}
	return d, h
}

// stands is what a sector's history says that it is.
func (h *history) stands(at int) []byte {
	if l := h.loose[at]; len(l) > 0 {
		return l[len(l)-1]
	}
	return h.fixed[at]
}

func TestP3_6Read(t *testing.T) {
	r := rand.New(rand.NewPCG(3, 6))
	for range 200 {
		d, h := some(t, r, 1+r.IntN(6), r.IntN(40))
		for at := range d.Size() {
			if !bytes.Equal(read(t, d, at), h.stands(at)) {
				t.Fatal(at)
			}
		}
	}
}

func TestP3_7Flushed(t *testing.T) {
	r := rand.New(rand.NewPCG(3, 7))
	for range 100 {
		d, h := some(t, r, 1+r.IntN(6), r.IntN(40))
		d.Flush()
		n := crash(t, d)
		for at := range d.Size() {
			if !bytes.Equal(read(t, n, at), h.stands(at)) {
				t.Fatal(at)
			}
		}
	}
}

func TestP3_8EachByItself(t *testing.T) {
	r := rand.New(rand.NewPCG(3, 8))
	for range 400 {
		d, h := some(t, r, 1+r.IntN(6), r.IntN(40))
		var fates []api.Fate
		want := slices.Clone(h.fixed)
		for _, l := range d.Loose() {
			f := api.Fate{Keep: r.IntN(l.Many + 1)}
			if f.Keep < l.Many {
				f.Cut = r.IntN(api.Sector)
			}
			fates = append(fates, f)
			all := append([][]byte{h.fixed[l.At]}, h.loose[l.At]...)
			want[l.At] = all[f.Keep]
			if f.Keep < l.Many {
				want[l.At] = slices.Concat(all[f.Keep+1][:f.Cut], all[f.Keep][f.Cut:])
			}
		}
		n := crash(t, d, fates...)
		for at := range d.Size() {
			if !bytes.Equal(read(t, n, at), want[at]) {
				t.Fatal(at, fates)
			}
		}
	}
}

func TestP3_9Fuse(t *testing.T) {
	for n := range 20 {
		d := made(t, 3)
		d.Flush()
		d.Fuse(n)
		told := 0
		for i := range 40 {
			step := d.Flush
			if i%4 != 3 {
				step = func() api.Errno { return d.Write(i%3, full(byte(i))) }
			}
			want := api.OK
			if told == n {
				want = api.ErrDown
			}
			if e := step(); e != want {
				t.Fatal(n, i, e)
			}
			if want == api.OK {
				told++
			}
		}
		if d.Done() != n+1 {
			t.Error(n, d.Done())
		}
	}
}

func TestP3_10Own(t *testing.T) {
	d := made(t, 1)
	b := full(1)
	d.Write(0, b)
	b[0] = 9
	got := read(t, d, 0)
	got[1] = 9
	if !bytes.Equal(read(t, d, 0), full(1)) {
		t.Error("a loose write")
	}
	d.Flush()
	got = read(t, d, 0)
	got[1] = 9
	if !bytes.Equal(read(t, d, 0), full(1)) {
		t.Error("what is fixed")
	}
	d.Write(0, full(2))
	l := d.Loose()
	l[0].Many = 7
	n := crash(t, d, api.Fate{Keep: 1})
	n.Write(0, full(3))
	n.Flush()
	n.Rot(0, 0, 5)
	if !bytes.Equal(read(t, d, 0), full(2)) || d.Loose()[0].Many != 1 || !bytes.Equal(read(t, crash(t, d), 0), full(1)) {
		t.Error("a disk, and one that came of it, share memory")
	}
	d.Rot(0, 0, 8)
	d.Write(0, full(7))
	if read(t, n, 0)[0] != 6 || len(n.Loose()) > 0 {
		t.Error("what is done to the disk is done to the one that came of it")
	}
}

package store_test

import (
	"bytes"
	"encoding/binary"
	"maps"
	"math"
	"math/rand/v2"
	"reflect"
	"slices"
	"strings"
	"testing"

	"lien/api"
	"lien/disk"
	"lien/edit"
	"lien/file"
	"lien/manifest"
	"lien/pick"
	"lien/space"
	"lien/store"
	"lien/super"
	"lien/wal"
)

// small are settings under which much happens soon.
func small() api.Conf { return api.Conf{Mem: 4, LogPairs: 1, ManPairs: 1, TableBytes: 256} }

// blank is a disk that must be made.
func blank(t *testing.T, sectors int) *disk.Disk {
	t.Helper()
	d, e := disk.New(sectors)
	if e != api.OK {
		t.Fatal(e)
	}
	return d
}

// opened is a store that must be opened.
func opened(t *testing.T, d *disk.Disk, c api.Conf) *store.Store {
	t.Helper()
	s, e := store.Open(d, c)
	if e != api.OK || s == nil {
		t.Fatal(e)
	}
	return s
}

// fresh is a new store on a new disk.
func fresh(t *testing.T, sectors int, c api.Conf) (*store.Store, *disk.Disk) {
	t.Helper()
	d := blank(t, sectors)
	if e := store.Format(d, c); e != api.OK {
		t.Fatal(e)
	}
	return opened(t, d, c), d
}

// put is a write of a key.
func put(key, val string) api.Write { return api.Write{Key: key, Val: []byte(val)} }

// gone is a write by which a key is gone.
func gone(key string) api.Write { return api.Write{Key: key, Del: true} }

// must is a batch that must be done.
func must(t *testing.T, s *store.Store, l ...api.Write) {
	t.Helper()
	n := s.Seq()
	if got, e := s.Apply(l...); e != api.OK || got != n+1 || s.Seq() != n+1 {
		t.Fatal(got, e)
	}
}

// ok fails, if there is an error.
func ok(t *testing.T, e api.Errno) {
	t.Helper()
	if e != api.OK {
		t.Fatal(e)
	}
}

// text is rows as one text.
func text(l []api.KV) string {
	var b strings.Builder
	for _, x := range l {
		b.WriteString(x.Key + "=" + string(x.Val) + ";")
	}
	return b.String()
}

// rows are all rows of a store, as one text.
func rows(t *testing.T, s *store.Store) string {
	t.Helper()
	l, e := s.Rows()
	ok(t, e)
	return text(l)
}

// tight fails, if a store has not just the plots of its manifest and its version.
func tight(t *testing.T, s *store.Store, d *disk.Disk) {
	t.Helper()
	used := 0
	for _, p := range edit.Places(s.Version()) {
		used += 2 * len(p.Pairs)
	}
	man, e := super.Load(d)
	if e == api.OK && s.Free() != space.Plots(d.Size())-used-2*len(man.Man.Pairs) {
		t.Fatal("plots", s.Free(), space.Plots(d.Size()), used)
	}
}

// record is a batch's by the chapter's words.
func record(n int, l ...api.Write) []byte {
	b := binary.AppendUvarint(nil, uint64(n))
	b = binary.AppendUvarint(b, uint64(len(l)))
	for _, w := range l {
		b = append(binary.AppendUvarint(b, uint64(len(w.Key))), w.Key...)
		if w.Del {
			b = append(b, 1)
			continue
		}
		b = append(binary.AppendUvarint(append(b, 0), uint64(len(w.Val))), w.Val...)
	}
	return b
}

// badConfs are settings that may not be.
func badConfs() []api.Conf {
	var l []api.Conf
	for _, n := range []int{math.MinInt, -1, 0, math.MaxInt} {
		a, b, c, d := small(), small(), small(), small()
		a.Mem, b.LogPairs, c.ManPairs, d.TableBytes = n, n, n, n
		l = append(l, a, b, c, d)
	}
	return append(l, api.Conf{}, api.Conf{Mem: 1025, LogPairs: 1, ManPairs: 1, TableBytes: 256}, api.Conf{Mem: 1, LogPairs: 17, ManPairs: 1, TableBytes: 256}, api.Conf{Mem: 1, LogPairs: 1, ManPairs: 9, TableBytes: 256},
		api.Conf{Mem: 1, LogPairs: 1, ManPairs: 1, TableBytes: 255}, api.Conf{Mem: 1, LogPairs: 1, ManPairs: 1, TableBytes: 16385})
}

func TestP19_1Format(t *testing.T) {
	for _, c := range badConfs() {
		if e := store.Format(nil, c); e != api.ErrConf {
			t.Error(c, e)
		}
		if s, e := store.Open(nil, c); e != api.ErrConf || s != nil {
			t.Error(c, e)
		}
	}
	for _, d := range []*disk.Disk{nil, {}} {
		if e := store.Format(d, small()); e != api.ErrNil {
			t.Error(e)
		}
		if s, e := store.Open(d, small()); e != api.ErrNil || s != nil {
			t.Error(e)
		}
	}
	if e := store.Format(blank(t, 3), small()); e != api.ErrRange {
		t.Error(e)
	}
	for n, want := range map[int]api.Errno{4: api.ErrSpace, 35: api.ErrSpace, 36: api.OK, 4096: api.OK} {
		if e := store.Format(blank(t, n), small()); e != want {
			t.Error(n, e)
		}
	}
	big := api.Conf{Mem: 1024, LogPairs: 16, ManPairs: 8, TableBytes: 16384}
	if store.Format(blank(t, 4+48*8-1), big) != api.ErrSpace || store.Format(blank(t, 4+48*8), big) != api.OK {
		t.Error("the greatest settings")
	}
	d := blank(t, 200)
	d.Fuse(0)
	if e := store.Format(d, small()); e != api.ErrDown {
		t.Error(e)
	}
	for n := range 6 {
		d := blank(t, 200)
		d.Fuse(n)
		if e := store.Format(d, small()); e != api.ErrDown || d.Done() != n {
			t.Error(n, e)
		}
	}
}

func TestP19_1WhatFormatLays(t *testing.T) {
	c := api.Conf{Mem: 1, LogPairs: 3, ManPairs: 2, TableBytes: 300}
	d := blank(t, 200)
	ok(t, store.Format(d, c))
	if store.Format(d, c) != api.ErrStore || d.Done() != 6 || len(d.Loose()) > 0 {
		t.Error("there is one", d.Done())
	}
	s, e := super.Load(d)
	if want := (api.Super{Gen: 1, Epoch: 1, Man: api.Place{ID: 1, Epoch: 1, Pairs: []api.Pair{{A: 0, B: 1}, {A: 2, B: 3}}}}); e != api.OK || !reflect.DeepEqual(s, want) {
		t.Error(s, e)
	}
	m, e := manifest.Load(d, s, 1)
	want := api.Version{Next: 2, Logs: []api.Log{{Place: api.Place{ID: 1, Epoch: 1, Pairs: []api.Pair{{A: 4, B: 5}, {A: 6, B: 7}, {A: 8, B: 9}}}, Sealed: -1}}}
	if e != api.OK || !edit.Same(m.Version(), want) {
		t.Error(m.Version(), e)
	}
}

func TestP19_2Open(t *testing.T) {
	s, d := fresh(t, 200, small())
	if s.Seq() != 0 || s.Durable() != 0 || s.Halted() || s.Free() != 20 || s.Version().Next != 2 || rows(t, s) != "" {
		t.Error(s.Seq(), s.Free())
	}
	man, _ := super.Load(d)
	if man.Gen != 2 || man.Epoch != 2 || len(d.Loose()) > 0 {
		t.Error(man)
	}
	must(t, s, put("a", "x"), put("b", "y"))
	must(t, s, gone("a"))
	ok(t, s.Sync())
	o := opened(t, d, small())
	man, _ = super.Load(d)
	if man.Gen != 3 || man.Epoch != 3 || o.Seq() != 2 || o.Durable() != 2 || rows(t, o) != "b=y;" {
		t.Error(man, o.Seq(), rows(t, o))
	}
	tight(t, o, d)
}

// laid is a disk with a store's superblock, its manifest of a version, and a log of these records at each of the version's logs.
func laid(t *testing.T, man api.Place, v api.Version, logs ...[][]byte) *disk.Disk {
	t.Helper()
	d := blank(t, 204)
	for i, r := range logs {
		l, _, e := wal.Open(d, v.Logs[i].Place, api.FLog, 1)
		ok(t, e)
		ok(t, l.Add(r...))
	}
	_, e := manifest.Create(d, api.Super{Epoch: 1}, man, v)
	ok(t, e)
	return d
}

// place is one of a pair of plots.
func place(id, a, b int) api.Place {
	return api.Place{ID: id, Epoch: 1, Pairs: []api.Pair{{A: a, B: b}}}
}

func TestP19_2OpenRefused(t *testing.T) {
	man := place(1, 0, 1)
	one := func(r ...[]byte) [][]byte { return r }
	two := func(sealed int) api.Version {
		return api.Version{Next: 5, Seq: 3, Logs: []api.Log{{Place: place(1, 2, 3), Sealed: sealed}, {Place: place(3, 4, 5), Sealed: -1}}}
	}
	a, b, c := put("a", "1"), put("b", "2"), gone("a")
	for i, x := range []struct {
		d    *disk.Disk
		want api.Errno
		rows string
		seq  int
	}{
		{blank(t, 200), api.ErrStore, "", 0},
		{blank(t, 3), api.ErrRange, "", 0},
		{laid(t, man, api.Version{Next: 5}), api.ErrStore, "", 0},
		{laid(t, man, api.Version{Next: 5, Logs: []api.Log{{Place: place(1, 2, 3), Sealed: 0}}}), api.ErrStore, "", 0},
		{laid(t, man, api.Version{Next: 5, Logs: []api.Log{{Place: place(1, 2, 1), Sealed: -1}}}), api.ErrStore, "", 0},
		{laid(t, man, api.Version{Next: 5, Logs: []api.Log{{Place: place(1, 2, 25), Sealed: -1}}}), api.ErrStore, "", 0},
		{laid(t, man, api.Version{Next: 5, Seq: 9, Logs: []api.Log{{Place: place(1, 2, 3), Sealed: -1}}, Tables: []api.Table{{Place: place(2, 0, 9), Size: 20, Count: 1, Low: "a", High: "a", Top: 1}}}), api.ErrStore, "", 0},
		{laid(t, man, api.Version{Next: 5, Seq: 9, Logs: []api.Log{{Place: place(1, 2, 24), Sealed: -1}}}), api.OK, "", 9},
		{laid(t, man, two(0), nil, one(record(4, a), record(5, b, c))), api.OK, "b=2;", 5},
		{laid(t, man, two(1), one(record(4, a)), one(record(5, b))), api.OK, "a=1;b=2;", 5},
		{laid(t, man, two(1), one(record(4, a), record(5, c)), one(record(5, b))), api.OK, "a=1;b=2;", 5},
		{laid(t, man, two(1), one(record(4, a), []byte{9}), one(record(5, b))), api.OK, "a=1;b=2;", 5},
		{laid(t, man, two(2), one(record(4, a)), one(record(5, b))), api.ErrRot, "", 0},
		{laid(t, man, two(1), nil, one(record(4, b))), api.ErrRot, "", 0},
		{laid(t, man, two(0), nil, one(record(3, a))), api.ErrRot, "", 0},
		{laid(t, man, two(0), nil, one(record(5, a))), api.ErrRot, "", 0},
		{laid(t, man, two(0), nil, one(record(4, a), record(4, a))), api.ErrRot, "", 0},
		{laid(t, man, two(0), nil, one(record(4, a), record(6, a))), api.ErrRot, "", 0},
		{laid(t, man, two(1), one(record(4, a)), one(record(4, b))), api.ErrRot, "", 0},
		{laid(t, man, two(0), nil, one(nil)), api.ErrRot, "", 0},
		{laid(t, man, two(0), nil, one(record(4))), api.ErrRot, "", 0},
		{laid(t, man, two(0), nil, one(record(4, a, a))), api.ErrRot, "", 0},
		{laid(t, man, two(0), nil, one(record(4, put("", "x")))), api.ErrRot, "", 0},
		{laid(t, man, two(0), nil, one(record(4, put(strings.Repeat("k", 65), "x")))), api.ErrRot, "", 0},
		{laid(t, man, two(0), nil, one(record(4, put("k", strings.Repeat("v", 257))))), api.ErrRot, "", 0},
		{laid(t, man, two(0), nil, one(append(record(4, a), 0))), api.ErrRot, "", 0},
		{laid(t, man, two(0), nil, one([]byte{4, 1, 1, 'a', 2})), api.ErrRot, "", 0},
		{laid(t, man, two(0), nil, one([]byte{4, 1, 1, 'a'})), api.ErrRot, "", 0},
		{laid(t, man, two(0), nil, one([]byte{132, 0, 1, 1, 'a', 1})), api.ErrRot, "", 0},
		{laid(t, man, two(0), nil, one([]byte{4, 1, 1, 'a', 1})), api.OK, "", 4},
		{laid(t, man, api.Version{Next: 5, Seq: api.MaxSeq, Logs: []api.Log{{Place: place(1, 2, 3), Sealed: -1}}}, one(record(api.MaxSeq+1, a))), api.ErrRot, "", 0},
	} {
		s, e := store.Open(x.d, small())
		if e != x.want || (s != nil) != (e == api.OK) {
			t.Error(i, e)
			continue
		}
		if e == api.OK && (s.Seq() != x.seq || s.Durable() != x.seq) {
			t.Error(i, s.Seq())
		}
		if e == api.OK && x.seq < 9 && rows(t, s) != x.rows {
			t.Error(i, rows(t, s))
		}
	}
}

func TestP19_2OpenMore(t *testing.T) {
	d := laid(t, place(1, 0, 1), api.Version{Next: 2, Logs: []api.Log{{Place: place(1, 2, 3), Sealed: -1}}})
	last, _ := super.Load(d)
	for _, x := range []api.Super{{Gen: api.MaxStamp, Epoch: 5, Man: last.Man}, {Gen: 4, Epoch: api.MaxStamp, Man: last.Man}} {
		c, _ := d.Crash()
		ok(t, super.Save(c, x))
		if s, e := store.Open(c, small()); e != api.ErrSuper || s != nil {
			t.Error(e)
		}
	}
	c, _ := d.Crash()
	last.Gen, last.Man.ID = 2, 9
	ok(t, super.Save(c, last))
	if s, e := store.Open(c, small()); e != api.ErrManifest || s != nil {
		t.Error(e)
	}
	for n := range 4 {
		c, _ := d.Crash()
		c.Fuse(n)
		if s, e := store.Open(c, small()); e != api.ErrDown || s != nil || c.Done() != n {
			t.Error(n, e)
		}
		c, _ = c.Crash()
		if s, e := store.Open(c, small()); e != api.OK || s == nil {
			t.Error(n, e)
		}
	}
}

func TestP19_2OpenScrubs(t *testing.T) {
	s, d := fresh(t, 200, small())
	must(t, s, put("a", "x"))
	ok(t, s.Sync())
	d.Rot(4, 30, 1)  // the manifest's first frame
	d.Rot(28, 30, 1) // the log's first frame, its other copy
	o := opened(t, d, small())
	if rows(t, o) != "a=x;" {
		t.Error(rows(t, o))
	}
	for _, x := range [][2]int{{4, 12}, {20, 28}} {
		a, _ := d.Read(x[0])
		b, _ := d.Read(x[1])
		if !bytes.Equal(a, b) {
			t.Error("mended", x)
		}
	}
}

func TestP19_3ApplyRefused(t *testing.T) {
	s, d := fresh(t, 200, small())
	done := d.Done()
	many := make([]api.Write, 65)
	for i := range many {
		many[i] = put(string([]byte{byte(i)}), "")
	}
	long := strings.Repeat("v", 256)
	var heavy []api.Write
	for i := range 32 {
		heavy = append(heavy, put(string([]byte{byte(i)}), long))
	}
	for i, x := range []struct {
		l []api.Write
		e api.Errno
	}{
		{nil, api.ErrBatch}, {many, api.ErrBatch}, {[]api.Write{put("", "x")}, api.ErrBatch}, {[]api.Write{put(strings.Repeat("k", 65), "x")}, api.ErrBatch}, {[]api.Write{put("a", "x"), put("a", "y")}, api.ErrBatch},
		{[]api.Write{put("a", "x"), gone("b"), gone("a")}, api.ErrBatch}, {[]api.Write{put("a", long+"v")}, api.ErrBatch}, {[]api.Write{{Key: "a", Del: true, Val: []byte{1}}}, api.ErrBatch},
		{heavy, api.ErrBatch}, {heavy[:31], api.ErrFull}, {heavy[:4], api.ErrFull},
	} {
		if n, e := s.Apply(x.l...); e != x.e || n != 0 || s.Seq() != 0 || d.Done() != done {
			t.Error(i, n, e)
		}
	}
	must(t, s, many[:64]...)
	must(t, s, heavy[:3]...)
	if s.Durable() != 1 || rows(t, s) == "" {
		t.Error("the first one is synced: both do not fit", s.Durable())
	}
}

func TestP19_3ApplyAtTheEdges(t *testing.T) {
	c := api.Conf{Mem: 1000, LogPairs: 1, ManPairs: 1, TableBytes: 4096}
	for size, want := range map[int]api.Errno{8*106 - 1: api.OK, 8 * 106: api.OK, 8*106 + 1: api.ErrFull} {
		s, _ := fresh(t, 400, c)
		l := []api.Write{put("a", ""), put("b", strings.Repeat("v", 200)), put("c", strings.Repeat("v", 200)), put("d", strings.Repeat("v", 200))}
		for len(record(1, l...)) < size {
			l[0].Val = append(l[0].Val, 'x')
		}
		if len(record(1, l...)) != size {
			t.Fatal(len(record(1, l...)))
		}
		if n, e := s.Apply(l...); e != want || (n == 1) != (e == api.OK) {
			t.Error(size, e)
		}
		if n, e := s.Apply(l...); e != want || (n == 2) != (e == api.OK) || want == api.OK && s.Durable() != 1 {
			t.Error(size, e)
		}
	}
	big := api.Conf{Mem: 1000, LogPairs: 16, ManPairs: 1, TableBytes: 4096}
	s, _ := fresh(t, 800, big)
	var l []api.Write
	for i := range 31 {
		l = append(l, put(string([]byte{byte(i), 1}), strings.Repeat("v", 256)))
	}
	l = append(l, put("z", ""))
	for len(record(1, l...)) < 8192 {
		l[31].Val = append(l[31].Val, 'x')
	}
	must(t, s, l...)
	l[31].Val = append(l[31].Val, 'x')
	if _, e := s.Apply(l...); e != api.ErrBatch {
		t.Error(e)
	}
	v := api.Version{Next: 2, Seq: api.MaxSeq - 1, Logs: []api.Log{{Place: place(1, 2, 3), Sealed: -1}}}
	o := opened(t, laid(t, place(1, 0, 1), v), small())
	must(t, o, put("a", "x"))
	if n, e := o.Apply(put("a", "y")); e != api.ErrMany || n != 0 || o.Seq() != api.MaxSeq {
		t.Error(n, e)
	}
	if _, e := o.Apply(); e != api.ErrBatch {
		t.Error(e)
	}
}

func TestP19_3WhatStandsInTheLog(t *testing.T) {
	s, d := fresh(t, 200, small())
	one, two, three := []api.Write{put("a", "x"), gone("b")}, []api.Write{put("b", "")}, []api.Write{gone("a")}
	must(t, s, one...)
	must(t, s, two...)
	if _, r, _ := wal.Open(d, s.Version().Logs[0].Place, api.FLog, 9); len(r) > 0 || s.Durable() != 0 {
		t.Error("nothing yet")
	}
	ok(t, s.Sync())
	must(t, s, three...)
	ok(t, s.Sync())
	done := d.Done()
	ok(t, s.Sync())
	l, r, _ := wal.Open(d, s.Version().Logs[0].Place, api.FLog, 9)
	if !slices.EqualFunc(r, [][]byte{record(1, one...), record(2, two...), record(3, three...)}, bytes.Equal) || l.Frames() != 2 || s.Durable() != 3 || d.Done() != done {
		t.Error(r, l.Frames())
	}
}

func TestP19_3AnotherLog(t *testing.T) {
	s, d := fresh(t, 400, api.Conf{Mem: 1000, LogPairs: 1, ManPairs: 1, TableBytes: 4096})
	free := s.Free()
	for i := range 8 {
		must(t, s, put("k", strings.Repeat("v", i)))
		ok(t, s.Sync())
	}
	if len(s.Version().Logs) != 1 || s.Free() != free {
		t.Error("a log has eight frames")
	}
	must(t, s, put("k", "9"))
	v := s.Version()
	if len(v.Logs) != 2 || v.Logs[0].Sealed != 8 || v.Logs[1].Sealed != -1 || v.Logs[1].Place.ID != 2 || v.Logs[1].Place.Epoch != 2 || v.Next != 3 || s.Free() != free-2 || s.Durable() != 8 {
		t.Error(v, s.Free())
	}
	tight(t, s, d)
	must(t, s, put("j", "1"))
	ok(t, s.Sync())
	o := opened(t, d, small())
	if rows(t, o) != "j=1;k=9;" || o.Seq() != 10 || len(o.Version().Logs) != 2 {
		t.Error(rows(t, o))
	}
	must(t, o, put("q", "1"))
	ok(t, o.Flush())
	if v := o.Version(); len(v.Logs) != 1 || len(v.Tables) == 0 || rows(t, opened(t, d, small())) != "j=1;k=9;q=1;" {
		t.Error(v)
	}
}

func TestP19_3NoRoomForAnotherLog(t *testing.T) {
	c := api.Conf{Mem: 1000, LogPairs: 1, ManPairs: 1, TableBytes: 4096}
	s, d := fresh(t, 4+8*7, c) // seven plots: two of the manifest, two of the log, three free: a log's, and less than a manifest's
	for i := range 8 {
		must(t, s, put("k", strings.Repeat("v", i)))
		ok(t, s.Sync())
	}
	was := rows(t, s)
	if n, e := s.Apply(put("k", "9")); e != api.ErrSpace || n != 0 || s.Seq() != 8 || rows(t, s) != was || s.Free() != 3 || s.Halted() {
		t.Error(n, e)
	}
	tight(t, s, d)
	if e := s.Flush(); e != api.ErrSpace || s.Free() != 3 || rows(t, s) != was || len(s.Version().Tables) > 0 {
		t.Error(e)
	}
	o := opened(t, d, c)
	if _, e := o.Apply(put("a", "b")); e != api.ErrSpace || rows(t, o) != was {
		t.Error(e)
	}
}

func TestP19_4Flush(t *testing.T) {
	s, d := fresh(t, 400, small())
	done := d.Done()
	ok(t, s.Flush())
	if d.Done() != done {
		t.Error("nothing to flush")
	}
	for i := range 9 {
		must(t, s, put("k"+string([]byte{byte('0' + i)}), strings.Repeat("v", 40)), gone("z"))
	}
	free := s.Free()
	ok(t, s.Flush())
	v := s.Version()
	// 58 bytes each; "z" is gone nine times, and just once in tables.
	if v.Seq != 9 || v.Next != 2+1+3 || len(v.Logs) != 1 || v.Logs[0].Place.ID != 2 || v.Logs[0].Sealed != -1 || len(v.Tables) != 3 || s.Durable() != 9 {
		t.Fatal(v)
	}
	for i, x := range v.Tables {
		if x.Level != 0 || x.Place.ID != 3+i || x.Place.Epoch != 2 || x.Count != []int{4, 4, 2}[i] || x.Low != []string{"k0", "k4", "k8"}[i] || x.High != []string{"k3", "k7", "z"}[i] || len(x.Place.Pairs) != 1 {
			t.Error(x)
		}
	}
	if s.Free() != free-6 {
		t.Error(s.Free(), free)
	}
	tight(t, s, d)
	if l, _, e := wal.Open(d, v.Logs[0].Place, api.FLog, 2); e != api.OK || l.Frames() != 0 {
		t.Error("the log is new", e)
	}
	done = d.Done()
	ok(t, s.Flush())
	if d.Done() != done || s.Version().Next != v.Next {
		t.Error("the memory is empty")
	}
	if o := opened(t, d, small()); rows(t, o) != rows(t, s) || o.Seq() != 9 {
		t.Error(o.Seq())
	}
}

func TestP19_4FlushKeepsWhatSnapshotsSee(t *testing.T) {
	s, _ := fresh(t, 400, small())
	must(t, s, put("a", "1"))
	must(t, s, put("a", "2"))
	n, _ := s.Snap()
	must(t, s, put("a", "3"))
	must(t, s, gone("a"))
	ok(t, s.Flush())
	if v := s.Version(); len(v.Tables) != 1 || v.Tables[0].Count != 2 {
		t.Error(v.Tables)
	}
	if b, is, e := s.Get("a", n); e != api.OK || !is || string(b) != "2" {
		t.Error(b, is, e)
	}
	if b, is, e := s.Get("a", 0); e != api.OK || is || len(b) > 0 {
		t.Error(b, is, e)
	}
}

func TestP19_5Compact(t *testing.T) {
	s, d := fresh(t, 600, small())
	for i := range 3 {
		must(t, s, put("a", string([]byte{byte('0' + i)})), put("b"+string([]byte{byte('0' + i)}), "x"))
		ok(t, s.Flush())
		if did, e := s.Compact(); did || e != api.OK {
			t.Error(did, e)
		}
	}
	must(t, s, gone("a"), gone("b0"))
	ok(t, s.Flush())
	v := s.Version()
	if len(v.Tables) != 4 || len(pick.Full(v)) != 1 {
		t.Fatal(v)
	}
	was, free := rows(t, s), s.Free()
	if did, e := s.Compact(); !did || e != api.OK {
		t.Fatal(did, e)
	}
	w := s.Version()
	if len(w.Tables) != 1 || w.Tables[0].Level != 1 || w.Tables[0].Count != 2 || w.Tables[0].Place.ID != v.Next || w.Next != v.Next+1 || w.Tables[0].Low != "b1" || w.Tables[0].High != "b2" || s.Free() != free+6 || rows(t, s) != was || was != "b1=x;b2=x;" {
		t.Error(w, was)
	}
	tight(t, s, d)
	if did, e := s.Compact(); did || e != api.OK {
		t.Error(did, e)
	}
	if o := opened(t, d, small()); rows(t, o) != was {
		t.Error(rows(t, o))
	}
}

func TestP19_5CompactToNothing(t *testing.T) {
	s, d := fresh(t, 600, small())
	for range 4 {
		must(t, s, gone("a"))
		ok(t, s.Flush())
	}
	next := s.Version().Next
	if did, e := s.Compact(); !did || e != api.OK || len(s.Version().Tables) != 0 || s.Version().Next != next {
		t.Error(did, e, s.Version())
	}
	tight(t, s, d)
}

func TestP19_5CompactErrors(t *testing.T) {
	s, d := fresh(t, 600, small())
	for i := range 4 {
		must(t, s, put("a", string([]byte{byte('0' + i)})))
		ok(t, s.Flush())
	}
	v, free := s.Version(), s.Free()
	a, b, _ := file.Sectors(v.Tables[2].Place, 0)
	d.Rot(a, 20, 1)
	d.Rot(b, 20, 1)
	if did, e := s.Compact(); did || e != api.ErrRot || !edit.Same(s.Version(), v) || s.Free() != free || s.Halted() {
		t.Error(did, e)
	}
	if _, e := s.Tick(); e != api.ErrRot {
		t.Error(e)
	}
	if _, is, e := s.Get("a", 0); is || e != api.ErrRot {
		t.Error(is, e)
	}
	if _, is, e := s.Get("b", 0); is || e != api.OK {
		t.Error(is, e)
	}
	if l, e := s.Rows(); len(l) > 0 || e != api.ErrRot {
		t.Error(e)
	}
	if l, e := s.Scan("b", "", 0); len(l) > 0 || e != api.OK {
		t.Error(e)
	}
	if l, e := s.Scan("", "a", 0); len(l) > 0 || e != api.OK {
		t.Error(e)
	}
	if x, e := s.Scrub(); e != api.OK || x.Lost != 1 {
		t.Error(x, e)
	}
	d.Fuse(0)
	if did, e := s.Compact(); did || e != api.ErrDown || !s.Halted() {
		t.Error(did, e)
	}
}

func TestP19_6Get(t *testing.T) {
	s, d := fresh(t, 600, small())
	for _, k := range []string{"", "a", strings.Repeat("q", 500)} {
		if b, is, e := s.Get(k, 0); is || e != api.OK || len(b) > 0 {
			t.Error(b, e)
		}
	}
	for _, n := range []int{math.MinInt, -1, 1, 5, math.MaxInt} {
		if b, is, e := s.Get("a", n); is || e != api.ErrSnap || len(b) > 0 {
			t.Error(n, e)
		}
		if l, e := s.Scan("a", "b", n); e != api.ErrSnap || len(l) > 0 {
			t.Error(n, e)
		}
	}
	must(t, s, put("a", "x"))
	if b, is, e := s.Get("a", 0); e != api.OK || !is || string(b) != "x" || s.Durable() != 0 {
		t.Error(b, is, e)
	}
	b, _, _ := s.Get("a", 0)
	b[0] = 'q'
	if b, _, _ := s.Get("a", 0); string(b) != "x" {
		t.Error("what is told is one's own")
	}
	ok(t, s.Sync())
	ok(t, s.Flush())
	must(t, s, put("empty", ""))
	if b, is, e := s.Get("empty", 0); e != api.OK || !is || len(b) > 0 {
		t.Error(b, is, e)
	}
	d.Fuse(0)
	if b, is, e := s.Get("empty", 0); e != api.OK || !is || len(b) > 0 || s.Halted() {
		t.Error("the memory needs no disk", e)
	}
	if b, is, e := s.Get("a", 0); e != api.ErrDown || is || len(b) > 0 || !s.Halted() {
		t.Error(b, is, e)
	}
}

func TestP19_6Scan(t *testing.T) {
	s, _ := fresh(t, 600, small())
	must(t, s, put("a", "1"), put("b", "2"), put("c", "3"))
	ok(t, s.Flush())
	must(t, s, put("d", "4"), gone("b"), put("c", "5"))
	for _, x := range [][3]string{{"", "", "a=1;c=5;d=4;"}, {"b", "", "c=5;d=4;"}, {"a", "c", "a=1;"}, {"a\x00", "d", "c=5;"}, {"c", "c", ""}, {"d", "a", ""}, {"d", "", "d=4;"}, {"z", "", ""}, {"", "a", ""}} {
		if l, e := s.Scan(x[0], x[1], 0); e != api.OK || text(l) != x[2] {
			t.Error(x, text(l), e)
		}
	}
}

func TestP19_7Snap(t *testing.T) {
	s, _ := fresh(t, 600, small())
	if n, e := s.Snap(); n != 0 || e != api.ErrSnap {
		t.Error(n, e)
	}
	for _, n := range []int{math.MinInt, -1, 0, 1} {
		if e := s.Release(n); e != api.ErrSnap {
			t.Error(n, e)
		}
	}
	must(t, s, put("a", "1"))
	for range 64 {
		if n, e := s.Snap(); n != 1 || e != api.OK {
			t.Error(n, e)
		}
	}
	if n, e := s.Snap(); n != 0 || e != api.ErrMany {
		t.Error(n, e)
	}
	must(t, s, put("a", "2"))
	ok(t, s.Release(1))
	if n, e := s.Snap(); n != 2 || e != api.OK {
		t.Error(n, e)
	}
	for range 63 {
		ok(t, s.Release(1))
		if b, is, e := s.Get("a", 2); e != api.OK || !is || string(b) != "2" {
			t.Error(b, e)
		}
	}
	if s.Release(1) != api.ErrSnap || s.Release(2) != api.OK || s.Release(2) != api.ErrSnap {
		t.Error("each once")
	}
	if _, _, e := s.Get("a", 2); e != api.ErrSnap {
		t.Error(e)
	}
}

func TestP19_8Scrub(t *testing.T) {
	s, d := fresh(t, 600, small())
	for i := range 4 {
		must(t, s, put("a"+string([]byte{byte('0' + i)}), strings.Repeat("v", 200)))
		ok(t, s.Flush())
	}
	must(t, s, put("a", "x"))
	ok(t, s.Sync())
	man, _ := super.Load(d)
	m, _ := manifest.Load(d, man, man.Epoch)
	frames := 1 + m.Part().Frames
	for _, x := range s.Version().Tables {
		frames += (x.Size + 107) / 108
	}
	if x, e := s.Scrub(); e != api.OK || x != (api.Scrubbed{Looked: frames}) {
		t.Error(x, e, frames)
	}
	mended := 0
	for i := range 3 {
		a, b, _ := file.Sectors(s.Version().Tables[i].Place, 1)
		d.Rot([]int{a, b}[i%2], 9, 1)
		mended++
	}
	a, _, _ := file.Sectors(s.Version().Logs[0].Place, 0)
	d.Rot(a, 9, 1)
	a, _, _ = file.Sectors(man.Man, 0)
	d.Rot(a, 9, 1)
	d.Rot(man.Gen%2*2, 9, 1)
	if x, e := s.Scrub(); e != api.OK || x != (api.Scrubbed{Looked: frames, Mended: mended + 3}) {
		t.Error(x, e)
	}
	if x, e := s.Scrub(); e != api.OK || x.Mended != 0 {
		t.Error(x, e)
	}
	d.Fuse(0)
	if x, e := s.Scrub(); e != api.ErrDown || x != (api.Scrubbed{}) || !s.Halted() {
		t.Error(x, e)
	}
}

func TestP19_8Tick(t *testing.T) {
	s, _ := fresh(t, 600, small())
	tick := func(want api.Work) {
		t.Helper()
		if w, e := s.Tick(); w != want || e != api.OK {
			t.Error(w, e, want)
		}
	}
	tick(api.NoWork)
	for round := range 4 {
		for i := range 3 {
			must(t, s, put(string([]byte{byte('a' + i)}), string([]byte{byte('0' + round)})))
		}
		tick(api.WSync)
		tick(api.NoWork)
		must(t, s, put("d", ""))
		tick(api.WSync)
		if s.Durable() != s.Seq() {
			t.Error("durable")
		}
		tick(api.WFlush)
		if round == 3 {
			must(t, s, put("d", "x"))
			tick(api.WSync)
			tick(api.WCompact)
		}
		tick(api.NoWork)
	}
	if v := s.Version(); len(v.Tables) != 1 || v.Tables[0].Level != 1 {
		t.Error(v.Tables)
	}
}

func TestRulesNobodyMadeIt(t *testing.T) {
	for _, s := range []*store.Store{nil, {}} {
		errors(t, s, api.ErrNil)
		if s.Seq() != 0 || s.Durable() != 0 || s.Free() != 0 || s.Halted() || !reflect.DeepEqual(s.Version(), api.Version{}) {
			t.Error("zero values")
		}
	}
}

// errors fails, if not all methods with an error tell this one, and nothing else.
func errors(t *testing.T, s *store.Store, want api.Errno) {
	t.Helper()
	n, e1 := s.Apply(put("a", "x"))
	m, e2 := s.Apply()
	b, is, e3 := s.Get("a", 0)
	l, e4 := s.Scan("", "", 99)
	r, e5 := s.Rows()
	k, e6 := s.Snap()
	did, e7 := s.Compact()
	x, e8 := s.Scrub()
	w, e9 := s.Tick()
	for i, e := range []api.Errno{e1, e2, e3, e4, e5, e6, e7, e8, e9, s.Sync(), s.Release(0), s.Flush()} {
		if e != want {
			t.Error(i, e)
		}
	}
	if n+m+k != 0 || is || did || len(b)+len(l)+len(r) > 0 || x != (api.Scrubbed{}) || w != api.NoWork {
		t.Error("zero values")
	}
}

func TestP19_9Halted(t *testing.T) {
	s, d := fresh(t, 600, small())
	must(t, s, put("a", "x"))
	d.Fuse(1)
	if e := s.Sync(); e != api.ErrDown || !s.Halted() {
		t.Error(e)
	}
	errors(t, s, api.ErrHalted)
	if s.Seq() != 1 || s.Durable() != 0 || s.Version().Next != 2 || s.Free() != space.Plots(600)-4 {
		t.Error("the others tell on")
	}
	o, p := fresh(t, 600, small())
	must(t, o, put("a", "x"))
	p.Fuse(0)
	if _, e := o.Tick(); e != api.ErrDown || !o.Halted() {
		t.Error(e)
	}
	errors(t, o, api.ErrHalted)
}

// history is what a map tells: the rows behind each number.
type history []map[string]string

// done is the history with a batch more.
func (h history) done(l ...api.Write) history {
	m := maps.Clone(h[len(h)-1])
	for _, w := range l {
		if delete(m, w.Key); !w.Del {
			m[w.Key] = string(w.Val)
		}
	}
	return append(h, m)
}

// text are the rows behind a number, of some keys, as one text.
func (h history) text(n int, low, high string) string {
	var l []api.KV
	for _, k := range slices.Sorted(maps.Keys(h[n])) {
		if k >= low && (high == "" || k < high) {
			l = append(l, api.KV{Key: k, Val: []byte(h[n][k])})
		}
	}
	return text(l)
}

// batch is one by chance.
func batch(r *rand.Rand) []api.Write {
	var l []api.Write
	for range 1 + r.IntN(3) {
		k := "k" + string([]byte{byte('a' + r.IntN(12))})
		if slices.ContainsFunc(l, func(w api.Write) bool { return w.Key == k }) {
			continue
		}
		if r.IntN(4) == 0 {
			l = append(l, gone(k))
		} else {
			l = append(l, put(k, strings.Repeat(string([]byte{byte('0' + r.IntN(10))}), r.IntN(1+r.IntN(60)))))
		}
	}
	return l
}

// asConf are settings by chance.
func asConf(r *rand.Rand) api.Conf {
	return api.Conf{Mem: 1 + r.IntN(12), LogPairs: 1 + r.IntN(2), ManPairs: 1 + r.IntN(2), TableBytes: 256 + r.IntN(500)}
}

// check holds a store against its history: now, and at its snapshots.
func check(t *testing.T, r *rand.Rand, s *store.Store, h history, snaps []int) {
	t.Helper()
	n := len(h) - 1
	if s.Seq() != n || rows(t, s) != h.text(n, "", "") {
		t.Fatal(s.Seq(), n, rows(t, s), h.text(n, "", ""))
	}
	for _, at := range append([]int{0}, snaps...) {
		bound := at
		if at == 0 {
			bound = n
		}
		low, high := "k"+string([]byte{byte('a' + r.IntN(12))}), "k"+string([]byte{byte('a' + r.IntN(12))})
		if l, e := s.Scan(low, high, at); e != api.OK || text(l) != h.text(bound, low, high) {
			t.Fatal(low, high, at, e, text(l))
		}
		want, is := h[bound][low]
		if b, has, e := s.Get(low, at); e != api.OK || has != is || string(b) != want {
			t.Fatal(low, at, b, has, e)
		}
	}
}

func TestP19_10AMap(t *testing.T) {
	r := rand.New(rand.NewPCG(19, 10))
	for range 40 {
		c := asConf(r)
		s, d := fresh(t, 1200, c)
		h := history{{}}
		var snaps []int
		for range 150 {
			switch r.IntN(12) {
			case 0:
				ok(t, s.Flush())
			case 1:
				_, e := s.Compact()
				ok(t, e)
			case 2:
				_, e := s.Scrub()
				ok(t, e)
			case 3:
				ok(t, s.Sync())
			case 4:
				if n, e := s.Snap(); e == api.OK {
					snaps = append(snaps, n)
				}
			case 5:
				if len(snaps) > 0 {
					i := r.IntN(len(snaps))
					ok(t, s.Release(snaps[i]))
					snaps = slices.Delete(snaps, i, i+1)
				}
			case 6:
				if r.IntN(3) == 0 {
					ok(t, s.Sync())
					s, snaps = opened(t, d, c), nil
				}
			case 7, 8:
				_, e := s.Tick()
				ok(t, e)
			default:
				l := batch(r)
				must(t, s, l...)
				h = h.done(l...)
			}
			check(t, r, s, h, snaps)
			tight(t, s, d)
		}
	}
}

// fate is what becomes of loose sectors, by chance.
func fate(r *rand.Rand, loose []api.Loose) []api.Fate {
	var out []api.Fate
	for _, l := range loose {
		f := api.Fate{Keep: r.IntN(l.Many + 1)}
		if f.Keep < l.Many && r.IntN(3) == 0 {
			f.Cut = r.IntN(128)
		}
		out = append(out, f)
	}
	return out
}

func TestP19_11Kept(t *testing.T) {
	r := rand.New(rand.NewPCG(19, 11))
	for range 150 {
		c := asConf(r)
		d := blank(t, 900)
		ok(t, store.Format(d, c))
		h := history{{}}
		durable := 0
		for range 12 {
			s, e := store.Open(d, c)
			if e == api.OK {
				if s.Seq() < durable || s.Seq() >= len(h) {
					t.Fatal(s.Seq(), durable, len(h))
				}
				if !d.Down() { // it may be, with the last call of the opening
					if rows(t, s) != h.text(s.Seq(), "", "") {
						t.Fatal(s.Seq(), rows(t, s))
					}
					tight(t, s, d)
				}
				h = h[:s.Seq()+1]
				d.Fuse(r.IntN(60))
				h = live(r, s, h)
				durable = s.Durable()
			} else if e != api.ErrDown {
				t.Fatal(e)
			}
			d, _ = d.Crash(fate(r, d.Loose())...)
			if r.IntN(3) == 0 {
				d.Fuse(r.IntN(8))
			}
		}
	}
}

// live does things by chance to a store, till it is halted, and tells its history: with the batch that was not told, if there is one.
func live(r *rand.Rand, s *store.Store, h history) history {
	for !s.Halted() {
		switch r.IntN(8) {
		case 0:
			s.Sync()
		case 1:
			s.Tick()
		case 2:
			s.Flush()
		case 3:
			s.Compact()
		case 4:
			s.Scrub()
		default:
			l := batch(r)
			if _, e := s.Apply(l...); e == api.OK {
				h = h.done(l...)
			}
		}
	}
	return h
}

func TestP19_11EveryPlace(t *testing.T) {
	c := api.Conf{Mem: 2, LogPairs: 1, ManPairs: 1, TableBytes: 256}
	do := func(s *store.Store, r *rand.Rand) history {
		h := history{{}}
		for range 60 {
			l := batch(r)
			if _, e := s.Apply(l...); e == api.OK {
				h = h.done(l...)
			}
			s.Tick()
		}
		return h
	}
	for fuse := 0; ; fuse++ {
		s, d := fresh(t, 700, c)
		d.Fuse(fuse)
		h := do(s, rand.New(rand.NewPCG(1, 9)))
		r := rand.New(rand.NewPCG(uint64(fuse), 19))
		for range 6 {
			n, _ := d.Crash(fate(r, d.Loose())...)
			o := opened(t, n, c)
			if o.Seq() < s.Durable() || o.Seq() >= len(h)+1 || o.Seq() < len(h) && rows(t, o) != h.text(o.Seq(), "", "") {
				t.Fatal(fuse, o.Seq(), s.Durable(), len(h))
			}
			tight(t, o, n)
		}
		if !s.Halted() {
			if fuse < 100 {
				t.Error("too little happens", fuse)
			}
			break
		}
	}
}

// aged is a store with tables of several levels, and its history.
func aged(t *testing.T, r *rand.Rand, c api.Conf, sectors, n int) (*store.Store, *disk.Disk, history) {
	t.Helper()
	s, d := fresh(t, sectors, c)
	h := history{{}}
	for range n {
		l := batch(r)
		must(t, s, l...)
		h = h.done(l...)
		if r.IntN(2) == 0 {
			_, e := s.Tick()
			ok(t, e)
		}
	}
	ok(t, s.Sync())
	return s, d, h
}

// frames are the sectors of both copies of each frame that a store uses.
func frames(s *store.Store, d *disk.Disk) [][2]int {
	man, _ := super.Load(d)
	l := [][2]int{{man.Gen % 2 * 2, man.Gen%2*2 + 1}}
	add := func(p api.Place, n int) {
		for i := range n {
			a, b, _ := file.Sectors(p, i)
			l = append(l, [2]int{a, b})
		}
	}
	m, _ := manifest.Load(d, man, man.Epoch)
	add(man.Man, m.Part().Frames)
	v := s.Version()
	for _, x := range v.Logs {
		o, _, _ := wal.Open(d, x.Place, api.FLog, man.Epoch)
		add(x.Place, o.Frames())
	}
	for _, x := range v.Tables {
		add(x.Place, (x.Size+107)/108)
	}
	return l
}

func TestP19_12OneCopy(t *testing.T) {
	r := rand.New(rand.NewPCG(19, 12))
	for range 40 {
		c := asConf(r)
		s, d, h := aged(t, r, c, 1200, 60)
		l := frames(s, d)
		for _, x := range l {
			d.Rot(x[r.IntN(2)], r.IntN(128), byte(1+r.IntN(255)))
		}
		n := len(h) - 1
		if r.IntN(2) == 0 {
			s = opened(t, d, c)
		}
		if s.Seq() != n || rows(t, s) != h.text(n, "", "") {
			t.Fatal(s.Seq(), n)
		}
		if x, e := s.Scrub(); e != api.OK || x.Lost != 0 {
			t.Fatal(x, e)
		}
		for _, x := range l[1:] {
			a, _ := d.Read(x[0])
			b, _ := d.Read(x[1])
			if !bytes.Equal(a, b) {
				t.Fatal("both copies are whole", x)
			}
		}
		if x, e := s.Scrub(); e != api.OK || x.Mended != 0 {
			t.Fatal(x, e)
		}
		check(t, r, opened(t, d, c), h, nil)
	}
}

func TestP19_13RightOrAnError(t *testing.T) {
	r := rand.New(rand.NewPCG(19, 13))
	wrong := 0
	for range 60 {
		s, d, h := aged(t, r, asConf(r), 1200, 60)
		for range 120 {
			for range 3 {
				x := frames(s, d)
				at := x[r.IntN(len(x))]
				d.Rot(at[r.IntN(2)], r.IntN(128), byte(1+r.IntN(255)))
			}
			n := len(h) - 1
			k := "k" + string([]byte{byte('a' + r.IntN(12))})
			want, is := h[n][k]
			if b, has, e := s.Get(k, 0); e == api.OK && (has != is || string(b) != want) || e != api.OK && (has || len(b) > 0) {
				t.Fatal(k, b, has, e, want)
			} else if e != api.OK {
				wrong++
			}
			if l, e := s.Scan(k, "", 0); e == api.OK && text(l) != h.text(n, k, "") || e != api.OK && len(l) > 0 {
				t.Fatal(k, e)
			}
			switch r.IntN(4) {
			case 0:
				s.Tick()
			case 1:
				s.Scrub()
			default:
				l := batch(r)
				if _, e := s.Apply(l...); e == api.OK {
					h = h.done(l...)
				}
			}
		}
	}
	if wrong == 0 {
		t.Error("nothing rotted")
	}
}

func TestP19_14Quiet(t *testing.T) {
	r := rand.New(rand.NewPCG(19, 14))
	for range 60 {
		c := asConf(r)
		s, d := fresh(t, 2000, c)
		entries := 0
		for range r.IntN(120) {
			l := batch(r)
			must(t, s, l...)
			if entries += len(l); r.IntN(6) == 0 {
				ok(t, s.Flush())
				entries = 0
			}
		}
		most := 3 + pick.Bound(s.Version()) + 3*entries
		n := 0
		for {
			w, e := s.Tick()
			ok(t, e)
			if w == api.NoWork {
				break
			}
			if n++; n > most {
				t.Fatal(n, most)
			}
		}
		if s.Durable() != s.Seq() || len(pick.Full(s.Version())) > 0 {
			t.Fatal("at rest")
		}
		tight(t, s, d)
	}
}

func TestP19_4NoRoomChangesNothing(t *testing.T) {
	r := rand.New(rand.NewPCG(19, 4))
	told := map[api.Errno]int{}
	for range 60 {
		c := asConf(r)
		d := blank(t, 4+8*(2*c.ManPairs+2*c.LogPairs+r.IntN(30)))
		ok(t, store.Format(d, c))
		s := opened(t, d, c)
		h := history{{}}
		for range 150 {
			free, v := s.Free(), s.Version()
			var e api.Errno
			switch r.IntN(5) {
			case 0:
				_, e = s.Tick()
			case 1:
				e = s.Flush()
			case 2:
				_, e = s.Compact()
			default:
				l := batch(r)
				if _, e = s.Apply(l...); e == api.OK {
					h = h.done(l...)
				}
			}
			told[e]++
			if e != api.OK && (s.Free() != free || !edit.Same(s.Version(), v)) {
				t.Fatal(e, s.Free(), free)
			}
			check(t, r, s, h, nil)
			tight(t, s, d)
		}
		ok(t, s.Sync())
		check(t, r, opened(t, d, c), h, nil)
	}
	if told[api.ErrSpace] == 0 {
		t.Error(told)
	}
}

func TestP19_3TheManifestMoves(t *testing.T) {
	s, d := fresh(t, 600, small())
	free := s.Free()
	moved := map[int]int{}
	for i := range 60 {
		must(t, s, put("a", string([]byte{byte(i)})))
		ok(t, s.Flush())
		_, e := s.Compact()
		ok(t, e)
		man, _ := super.Load(d)
		moved[man.Man.ID]++
		if man.Epoch != 2 || man.Man.ID != 1 && (man.Man.ID != man.Gen || man.Man.Epoch != 2) {
			t.Fatal(man)
		}
		tight(t, s, d)
	}
	if len(moved) < 5 || s.Free() < free-2*5 || rows(t, opened(t, d, small())) != "a="+string([]byte{59})+";" {
		t.Error(moved, s.Free(), rows(t, s))
	}
}

func TestP19_3TooManyLogs(t *testing.T) {
	s, d := fresh(t, 1200, api.Conf{Mem: 1000, LogPairs: 1, ManPairs: 2, TableBytes: 4096})
	var e api.Errno
	n := 0
	for e == api.OK && n < 999 {
		ok(t, s.Sync())
		free := s.Free()
		if _, e = s.Apply(put("a", strings.Repeat("v", 100))); e == api.OK {
			n++
		} else if s.Free() != free || s.Seq() != n {
			t.Error("it changed something")
		}
	}
	if e != api.ErrEdit || len(s.Version().Logs) != 32 || s.Halted() {
		t.Error(n, e, len(s.Version().Logs))
	}
	tight(t, s, d)
	ok(t, s.Flush())
	must(t, s, put("a", "x"))
	if len(s.Version().Logs) != 1 || rows(t, s) != "a=x;" {
		t.Error(s.Version().Logs)
	}
}

func TestP19_3ApplyThatIsCutOff(t *testing.T) {
	c := api.Conf{Mem: 1000, LogPairs: 1, ManPairs: 1, TableBytes: 4096}
	for n := 0; ; n++ {
		s, d := fresh(t, 400, c)
		for range 7 {
			must(t, s, put("k", "x"))
			ok(t, s.Sync())
		}
		must(t, s, put("k", "y"))
		d.Fuse(n)
		// The group takes the last frame: it is synced, and there is another log.
		got, e := s.Apply(put("j", strings.Repeat("v", 200)))
		if e == api.OK {
			if n != 6 || got != 9 || s.Durable() != 8 {
				t.Error(n, got, s.Durable())
			}
			break
		}
		durable := 7
		if n >= 3 {
			durable = 8
		}
		if e != api.ErrDown || got != 0 || s.Seq() != 8 || s.Durable() != durable || !s.Halted() || s.Free() != space.Plots(400)-4 || d.Done() < n {
			t.Error(n, got, e, s.Durable(), s.Free())
		}
	}
}

func TestP19_4FlushThatIsCutOff(t *testing.T) {
	for n := 0; ; n++ {
		s, d := fresh(t, 400, small())
		must(t, s, put("k", "x"))
		v, free := s.Version(), s.Free()
		d.Fuse(n)
		e := s.Flush()
		if e == api.OK {
			if n < 9 || len(s.Version().Tables) != 1 {
				t.Error(n)
			}
			break
		}
		if e != api.ErrDown || !s.Halted() || !edit.Same(s.Version(), v) || s.Free() != free {
			t.Error(n, e)
		}
	}
}

func TestP19_3AGroupHas256Records(t *testing.T) {
	s, d := fresh(t, 800, api.Conf{Mem: 1000, LogPairs: 16, ManPairs: 1, TableBytes: 4096})
	for i := range 600 {
		must(t, s, put("k", "x"))
		if want := i / 256 * 256; s.Durable() != want || len(s.Version().Logs) != 1 {
			t.Fatal(i, s.Durable())
		}
	}
	ok(t, s.Sync())
	if o := opened(t, d, small()); o.Seq() != 600 || rows(t, o) != "k=x;" {
		t.Error(o.Seq())
	}
}

func TestP19_2OpenReadsWhatIsAtTheLimits(t *testing.T) {
	many := make([]api.Write, 64)
	for i := range many {
		many[i] = put(strings.Repeat("k", 63)+string([]byte{byte(i)}), "")
	}
	s, d := fresh(t, 800, api.Conf{Mem: 1000, LogPairs: 16, ManPairs: 1, TableBytes: 4096})
	must(t, s, many...)
	must(t, s, put("v", strings.Repeat("v", 256)))
	ok(t, s.Sync())
	was := rows(t, s)
	o := opened(t, d, small())
	if o.Seq() != 2 || rows(t, o) != was {
		t.Error(o.Seq())
	}
	v := api.Version{Next: 2, Seq: api.MaxSeq - 1, Logs: []api.Log{{Place: place(1, 2, 3), Sealed: -1}}}
	last := opened(t, laid(t, place(1, 0, 1), v, [][]byte{record(api.MaxSeq, put("a", "x"))}), small())
	if last.Seq() != api.MaxSeq || rows(t, last) != "a=x;" {
		t.Error(last.Seq())
	}
}

func TestP19_3JustRoomForAnotherLog(t *testing.T) {
	for _, x := range []struct {
		logPairs, manPairs, plots int
		want                      api.Errno
	}{
		// Plots of the manifest, of the log, of another log, and as many as the manifest needs to go elsewhere.
		{1, 1, 8, api.OK}, {1, 1, 7, api.ErrSpace}, {2, 1, 12, api.OK}, {2, 1, 11, api.ErrSpace}, {1, 3, 16, api.OK}, {1, 3, 15, api.ErrSpace},
	} {
		s, d := fresh(t, 4+8*x.plots, api.Conf{Mem: 1000, LogPairs: x.logPairs, ManPairs: x.manPairs, TableBytes: 4096})
		for range 8 * x.logPairs {
			must(t, s, put("k", "x"))
			ok(t, s.Sync())
		}
		if _, e := s.Apply(put("k", "y")); e != x.want || (len(s.Version().Logs) == 2) != (e == api.OK) {
			t.Error(x, e)
		}
		tight(t, s, d)
	}
}

func TestP19_5CompactLeavesTheOthers(t *testing.T) {
	s, d := fresh(t, 1600, api.Conf{Mem: 1000, LogPairs: 1, ManPairs: 8, TableBytes: 256})
	far := func(k string) {
		t.Helper()
		for i := range 4 {
			must(t, s, put(k+string([]byte{byte('0' + i)}), strings.Repeat("v", 100)))
			ok(t, s.Flush())
		}
		if did, e := s.Compact(); !did || e != api.OK {
			t.Fatal(did, e)
		}
	}
	far("a")
	ahead := s.Version()
	far("x")
	behind := s.Version()
	for _, x := range ahead.Tables {
		if !slices.ContainsFunc(behind.Tables, func(y api.Table) bool { return reflect.DeepEqual(x, y) }) {
			t.Error("a table that no job names stays", x, behind)
		}
	}
	if len(behind.Tables) != 2*len(ahead.Tables) {
		t.Error(behind)
	}
	tight(t, s, d)
	far("a") // the first ones are met now, the others are not
	last := s.Version()
	for _, x := range behind.Tables {
		stays := slices.ContainsFunc(last.Tables, func(y api.Table) bool { return reflect.DeepEqual(x, y) })
		if stays != (x.Low >= "x") {
			t.Error(x, stays)
		}
	}
}

func TestP19_5CompactThatIsCutOff(t *testing.T) {
	for n := 0; ; n++ {
		s, d := fresh(t, 600, small())
		for i := range 4 {
			must(t, s, put("a"+string([]byte{byte('0' + i)}), strings.Repeat("v", 90)))
			ok(t, s.Flush())
		}
		v, free := s.Version(), s.Free()
		d.Fuse(n)
		did, e := s.Compact()
		if e == api.OK {
			if !did || n < 12 {
				t.Error(n, did)
			}
			break
		}
		if e != api.ErrDown || did || !s.Halted() || !edit.Same(s.Version(), v) || s.Free() != free {
			t.Error(n, e, s.Free(), free)
		}
	}
}

func TestP19_6ScanHalts(t *testing.T) {
	for i := range 2 {
		s, d := fresh(t, 600, small())
		must(t, s, put("a", "x"))
		ok(t, s.Flush())
		d.Fuse(0)
		var e api.Errno
		if i == 0 {
			_, e = s.Rows()
		} else {
			_, e = s.Scan("a", "b", 0)
		}
		if e != api.ErrDown || !s.Halted() {
			t.Error(i, e)
		}
	}
}

func TestP19_8ScrubLooksAtAllFramesOfATable(t *testing.T) {
	seen := map[int]int{}
	for n := range 230 {
		s, d := fresh(t, 600, small())
		must(t, s, put("a", strings.Repeat("v", n)))
		ok(t, s.Flush())
		man, _ := super.Load(d)
		m, _ := manifest.Load(d, man, man.Epoch)
		size := s.Version().Tables[0].Size
		seen[size%108]++
		if x, e := s.Scrub(); e != api.OK || x.Looked != m.Part().Frames+(size+107)/108 {
			t.Fatal(n, x, size)
		}
	}
	if seen[0] == 0 || seen[1] == 0 || seen[107] == 0 {
		t.Error(seen)
	}
}

func TestP19_3AManifestThatDoesNotMove(t *testing.T) {
	cut := 0
	for n := range 200 {
		s, d := fresh(t, 600, small())
		d.Fuse(n)
		for i := 0; !s.Halted() && i < 12; i++ {
			s.Apply(put("a", string([]byte{byte(i)})))
			free, v := s.Free(), s.Version()
			e := s.Flush()
			if e == api.OK {
				continue
			}
			if cut++; e != api.ErrDown || !s.Halted() || s.Free() != free || !edit.Same(s.Version(), v) {
				t.Fatal(n, e, s.Free(), free)
			}
		}
	}
	if cut < 100 {
		t.Error(cut)
	}
}

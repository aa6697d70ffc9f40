package store

import (
	"slices"

	"lien/api"
	"lien/frag"
	"lien/mem"
	"lien/merge"
	"lien/pick"
	"lien/table"
	"lien/wal"
)

// Apply does a batch: its number.
func (s *Store) Apply(l ...api.Write) (n int, e api.Errno) {
	if e := s.ready(); e != api.OK {
		return 0, e
	}
	defer s.halt(&e)
	if !isBatch(l) {
		return 0, api.ErrBatch
	}
	b := record(s.seq+1, l)
	if len(b) > api.MaxRecord {
		return 0, api.ErrBatch
	}
	if s.seq == api.MaxSeq {
		return 0, api.ErrMany
	}
	if need, _ := frag.Need(len(b)); need > api.PlotSectors*s.conf.LogPairs {
		return 0, api.ErrFull
	}
	if e := s.room(len(b)); e != api.OK {
		return 0, e
	}
	s.remember(s.seq+1, l)
	s.group = append(s.group, b)
	return s.seq, api.OK
}

// Sync brings all that was done to the disk.
func (s *Store) Sync() (e api.Errno) {
	if e := s.ready(); e != api.OK {
		return e
	}
	defer s.halt(&e)
	return s.sync()
}

// Flush brings the memory into tables.
func (s *Store) Flush() (e api.Errno) {
	if e := s.ready(); e != api.OK {
		return e
	}
	defer s.halt(&e)
	return s.flush()
}

// Compact puts tables of a full level together with those of the next one.
func (s *Store) Compact() (did bool, e api.Errno) {
	if e := s.ready(); e != api.OK {
		return false, e
	}
	defer s.halt(&e)
	if _, ok := pick.Pick(s.man.Version()); !ok {
		return false, api.OK
	}
	if e := s.compact(); e != api.OK {
		return false, e
	}
	return true, api.OK
}

// Tick does what is to be done next.
func (s *Store) Tick() (w api.Work, e api.Errno) {
	if e := s.ready(); e != api.OK {
		return api.NoWork, e
	}
	defer s.halt(&e)
	_, job := pick.Pick(s.man.Version())
	for _, x := range []struct {
		work api.Work
		due  bool
		do   func() api.Errno
	}{
		{api.WSync, len(s.group) > 0, s.sync},
		{api.WFlush, s.mem.Len() >= s.conf.Mem, s.flush},
		{api.WCompact, job, s.compact},
	} {
		if x.due {
			return x.work, x.do()
		}
	}
	return api.NoWork, api.OK
}

// log is the one that is open.
func (s *Store) log() *wal.Log {
	return s.logs[len(s.logs)-1]
}

// sync adds the group to the log.
func (s *Store) sync() api.Errno {
	if len(s.group) == 0 {
		return api.OK
	}
	if e := s.log().Add(s.group...); e != api.OK {
		return e
	}
	s.group, s.durable = nil, s.seq
	return api.OK
}

// room makes room in the log for the group with a record of so many bytes.
func (s *Store) room(size int) api.Errno {
	var sizes []int
	for _, b := range s.group {
		sizes = append(sizes, len(b))
	}
	if s.log().Fits(append(sizes, size)...) {
		return api.OK
	}
	if e := s.sync(); e != api.OK {
		return e
	}
	if s.log().Fits(size) {
		return api.OK
	}
	return s.nextLog()
}

// nextLog seals the log, and goes on in another one.
func (s *Store) nextLog() (e api.Errno) {
	lots, e := s.take(s.conf.LogPairs)
	if e != api.OK {
		return e
	}
	defer s.giveUnless(&e, lots)
	next := s.man.Version().Next
	log, e := s.openLog(next, lots[0])
	if e != api.OK {
		return e
	}
	e = s.tell(
		api.Edit{Kind: api.ENext, N: next + 1},
		api.Edit{Kind: api.ESeal, ID: s.log().Part().Place.ID, N: s.log().Records()},
		api.Edit{Kind: api.EAddLog, Place: log.Part().Place})
	if e != api.OK {
		return e
	}
	s.logs = append(s.logs, log)
	return api.OK
}

// flush syncs, and lays the memory into tables of level 0.
func (s *Store) flush() (e api.Errno) {
	if e := s.sync(); e != api.OK || s.mem.Len() == 0 {
		return e
	}
	rows, e := s.build(merge.Thin(s.mem.All(), s.snaps, false), 0)
	if e != api.OK {
		return e
	}
	lots, e := s.take(append([]int{s.conf.LogPairs}, needs(rows)...)...)
	if e != api.OK {
		return e
	}
	defer s.giveUnless(&e, lots)
	next := s.man.Version().Next
	adds, e := s.lay(rows, next+1, lots[1:])
	if e != api.OK {
		return e
	}
	log, e := s.openLog(next, lots[0])
	if e != api.OK {
		return e
	}
	edits := []api.Edit{{Kind: api.ENext, N: next + 1 + len(rows)}, {Kind: api.ESeq, N: s.seq}}
	var old []api.Pair
	for _, l := range s.logs {
		p := l.Part().Place
		edits = append(edits, api.Edit{Kind: api.EDropLog, ID: p.ID})
		old = append(old, p.Pairs...)
	}
	edits = append(edits, api.Edit{Kind: api.EAddLog, Place: log.Part().Place})
	if e = s.tell(append(edits, adds...)...); e != api.OK {
		return e
	}
	s.space.Give(old...)
	s.logs, s.mem = []*wal.Log{log}, mem.New()
	return api.OK
}

// compact does the job that is next.
func (s *Store) compact() (e api.Errno) {
	v := s.man.Version()
	job, _ := pick.Pick(v)
	var lists [][]api.Entry
	var drops []api.Edit
	var old []api.Pair
	for _, t := range v.Tables {
		if !slices.Contains(job.In, t.Place.ID) && !slices.Contains(job.Over, t.Place.ID) {
			continue
		}
		l, e := s.entries(t)
		if e != api.OK {
			return e
		}
		lists = append(lists, l)
		drops = append(drops, api.Edit{Kind: api.EDropTable, ID: t.Place.ID})
		old = append(old, t.Place.Pairs...)
	}
	rows, e := s.build(merge.Thin(merge.Merge(lists...), s.snaps, pick.Bottom(v, job)), job.Level+1)
	if e != api.OK {
		return e
	}
	lots, e := s.take(needs(rows)...)
	if e != api.OK {
		return e
	}
	defer s.giveUnless(&e, lots)
	adds, e := s.lay(rows, v.Next, lots)
	if e != api.OK {
		return e
	}
	edits := append([]api.Edit{{Kind: api.ENext, N: v.Next + len(rows)}}, drops...)
	if e = s.tell(append(edits, adds...)...); e != api.OK {
		return e
	}
	s.space.Give(old...)
	return api.OK
}

// entries are all of a table.
func (s *Store) entries(t api.Table) ([]api.Entry, api.Errno) {
	o, e := table.Open(s.d, t)
	if e != api.OK {
		return nil, e
	}
	return o.All()
}

// row is a table that is to be written: its bytes, and what is known of it but its place.
type row struct {
	bytes []byte
	table api.Table
}

// build makes rows of entries, for tables of a level.
func (s *Store) build(l []api.Entry, level int) ([]row, api.Errno) {
	var rows []row
	for _, some := range merge.Split(l, s.conf.TableBytes) {
		b, e := table.Build(some...)
		if e != api.OK {
			return nil, e
		}
		t := table.Of(some...)
		t.Level = level
		rows = append(rows, row{bytes: b, table: t})
	}
	return rows, api.OK
}

// needs are how many pairs rows take.
func needs(rows []row) []int {
	var l []int
	for _, r := range rows {
		l = append(l, table.Need(len(r.bytes)))
	}
	return l
}

// lay writes rows to files of IDs from one on: the edits that add them.
func (s *Store) lay(rows []row, id int, lots [][]api.Pair) ([]api.Edit, api.Errno) {
	var adds []api.Edit
	for i, r := range rows {
		t := r.table
		t.Place = api.Place{ID: id + i, Epoch: s.epoch, Pairs: lots[i]}
		if e := table.Write(s.d, t.Place, s.epoch, r.bytes); e != api.OK {
			return nil, e
		}
		adds = append(adds, api.Edit{Kind: api.EAddTable, Table: t})
	}
	return adds, api.OK
}

// openLog opens a log where there was none.
func (s *Store) openLog(id int, pairs []api.Pair) (*wal.Log, api.Errno) {
	l, _, e := wal.Open(s.d, api.Place{ID: id, Epoch: s.epoch, Pairs: pairs}, api.FLog, s.epoch)
	return l, e
}

// take takes some numbers of pairs, and leaves as many as a manifest needs to go elsewhere.
func (s *Store) take(counts ...int) ([][]api.Pair, api.Errno) {
	all := s.conf.ManPairs
	for _, n := range counts {
		all += n
	}
	if s.space.Free() < 2*all {
		return nil, api.ErrSpace
	}
	var lots [][]api.Pair
	for _, n := range counts {
		l, e := s.space.Take(n)
		if e != api.OK {
			s.give(lots)
			return nil, e
		}
		lots = append(lots, l)
	}
	return lots, api.OK
}

// give gives pairs back.
func (s *Store) give(lots [][]api.Pair) {
	s.space.Give(slices.Concat(lots...)...)
}

// giveUnless gives pairs back, unless they came to use.
func (s *Store) giveUnless(e *api.Errno, lots [][]api.Pair) {
	if *e != api.OK {
		s.give(lots)
	}
}

// tell does edits to the manifest, elsewhere, if they do not fit where it is.
func (s *Store) tell(l ...api.Edit) api.Errno {
	if !s.man.Fits(l...) {
		if e := s.move(); e != api.OK {
			return e
		}
	}
	return s.man.Add(l...)
}

// move lets the manifest go on elsewhere.
func (s *Store) move() (e api.Errno) {
	pairs, e := s.space.Take(s.conf.ManPairs)
	if e != api.OK {
		return e
	}
	defer s.giveUnless(&e, [][]api.Pair{pairs})
	was, e := s.man.Switch(api.Place{ID: s.man.Super().Gen + 1, Epoch: s.epoch, Pairs: pairs})
	if e != api.OK {
		return e
	}
	s.space.Give(was.Pairs...)
	return api.OK
}

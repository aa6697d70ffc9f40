package store

import (
	"slices"

	"lien/api"
	"lien/merge"
	"lien/table"
)

// Get is a key's value, now or as of a snapshot.
func (s *Store) Get(key string, snap int) (val []byte, ok bool, e api.Errno) {
	if e := s.ready(); e != api.OK {
		return nil, false, e
	}
	defer s.halt(&e)
	bound, e := s.bound(snap)
	if e != api.OK {
		return nil, false, e
	}
	x, ok, e := s.newest(key, bound)
	if e != api.OK || !ok || x.Del {
		return nil, false, e
	}
	return x.Val, true, api.OK
}

// Scan are the keys from low on, below high, with their values.
func (s *Store) Scan(low, high string, snap int) (l []api.KV, e api.Errno) {
	if e := s.ready(); e != api.OK {
		return nil, e
	}
	defer s.halt(&e)
	bound, e := s.bound(snap)
	if e != api.OK {
		return nil, e
	}
	all := s.mem.Range(low, high)
	for _, t := range s.man.Version().Tables {
		if t.High < low || high != "" && t.Low >= high {
			continue
		}
		o, e := table.Open(s.d, t)
		if e != api.OK {
			return nil, e
		}
		some, e := o.Range(low, high)
		if e != api.OK {
			return nil, e
		}
		all = append(all, some...)
	}
	return merge.Visible(all, bound), api.OK
}

// Rows are all keys with their values.
func (s *Store) Rows() ([]api.KV, api.Errno) {
	return s.Scan("", "", 0)
}

// Snap takes a snapshot: its number.
func (s *Store) Snap() (int, api.Errno) {
	if e := s.ready(); e != api.OK {
		return 0, e
	}
	if len(s.snaps) >= api.MaxSnaps {
		return 0, api.ErrMany
	}
	if s.seq == 0 {
		return 0, api.ErrSnap
	}
	s.snaps = append(s.snaps, s.seq)
	return s.seq, api.OK
}

// Release lets a snapshot go.
func (s *Store) Release(snap int) api.Errno {
	if e := s.ready(); e != api.OK {
		return e
	}
	i := slices.Index(s.snaps, snap)
	if i < 0 {
		return api.ErrSnap
	}
	s.snaps = slices.Delete(s.snaps, i, i+1)
	return api.OK
}

// Scrub mends what has one whole copy.
func (s *Store) Scrub() (what api.Scrubbed, e api.Errno) {
	if e := s.ready(); e != api.OK {
		return api.Scrubbed{}, e
	}
	defer s.halt(&e)
	return s.pass(s.man.Version().Tables)
}

// bound is up to which number is read.
func (s *Store) bound(snap int) (int, api.Errno) {
	switch {
	case snap == 0:
		return s.seq, api.OK
	case slices.Contains(s.snaps, snap):
		return snap, api.OK
	}
	return 0, api.ErrSnap
}

// newest is a key's newest entry up to a number.
func (s *Store) newest(key string, bound int) (api.Entry, bool, api.Errno) {
	if x, ok := s.mem.Get(key, bound); ok {
		return x, true, api.OK
	}
	var l []api.Entry
	for _, t := range s.man.Version().Tables {
		if key < t.Low || key > t.High {
			continue
		}
		o, e := table.Open(s.d, t)
		if e != api.OK {
			return api.Entry{}, false, e
		}
		x, ok, e := o.Get(key, bound)
		if e != api.OK {
			return api.Entry{}, false, e
		}
		if ok {
			l = append(l, x)
		}
	}
	x, ok := merge.Newest(l, key, bound)
	return x, ok, api.OK
}

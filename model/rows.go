package model

import (
	"cmp"
	"maps"
	"slices"

	"lien/api"
	"lien/outbox"
	"lien/rights"
)

const mostOut = 1 << 60 // how many rights on their way are told at most

// Pending: the transfers to a peer that wait.
func Pending(v View, peer int) ([]api.Message, api.Errno) {
	if v == nil {
		return nil, api.ErrNil
	}
	begin, e := outbox.OutsKey(peer)
	if e != api.OK {
		return nil, e
	}
	rows, e := rowsFrom(v, begin)
	if e != api.OK {
		return nil, e
	}
	var l []api.Message
	for _, row := range rows {
		_, _, seq, e := outbox.Split(row.Key)
		x, e2 := outbox.ReadIntent(row.Val)
		if e != api.OK || e2 != api.OK {
			return nil, api.ErrBox
		}
		l = append(l, api.Message{Kind: api.MTransfer, Peer: peer, Seq: seq, Key: x.Key, N: x.N})
	}
	slices.SortStableFunc(l, func(a, b api.Message) int { return cmp.Compare(a.Seq, b.Seq) })
	return l, api.OK
}

// Totals: what there is of each name.
func Totals(rows []api.KV) ([]api.Total, api.Errno) {
	seen := map[string]int{}
	all := map[string]api.Total{}
	for _, row := range rows {
		seen[row.Key]++
		kind, of, _, e := outbox.Split(row.Key)
		if e != api.OK || seen[row.Key] > 1 || count(all, kind, of, row.Val) != api.OK {
			return nil, api.ErrBox
		}
	}
	var l []api.Total
	for _, name := range slices.Sorted(maps.Keys(all)) {
		t := all[name]
		t.Key = name
		l = append(l, t)
	}
	return l, api.OK
}

// count puts a row, of what its key is split into, to what there is of its name.
func count(all map[string]api.Total, kind, of string, b []byte) api.Errno {
	var e api.Errno
	switch kind {
	case "a":
		var a api.Account
		if a, e = rights.ReadAccount(b); e == api.OK {
			t := all[of]
			t.Free, t.Held = a.Free, a.Held
			all[of] = t
		}
	case "o":
		var x api.Intent
		if x, e = outbox.ReadIntent(b); e == api.OK {
			t := all[x.Key]
			t.Out = min(mostOut, t.Out+x.N)
			all[x.Key] = t
		}
	case "h":
		_, e = rights.ReadHold(b)
	case "i":
		_, e = outbox.ReadInbox(b)
	default:
		_, e = outbox.ReadNum(b)
	}
	return e
}

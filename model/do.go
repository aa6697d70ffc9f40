package model

import (
	"lien/api"
	"lien/outbox"
	"lien/rights"
)

const mostExpire = 32 // how many holds go at once at most

// outcome is what a request does, beside what it makes of rows.
type outcome struct {
	reply    api.Reply
	messages []api.Message
	lines    []api.Line
}

// Do: what a request does.
func Do(v View, r api.Request) (api.Reply, []api.Write, []api.Message, api.Errno) {
	o, writes, e := run(v, r)
	return o.reply, writes, o.messages, e
}

// Lines: what books say of it.
func Lines(v View, r api.Request) ([]api.Line, api.Errno) {
	o, _, e := run(v, r)
	return o.lines, e
}

// run is what a request does, and what it makes of rows.
func run(v View, r api.Request) (o outcome, writes []api.Write, e api.Errno) {
	if v == nil {
		return outcome{}, nil, api.ErrNil
	}
	defer func() {
		if x := recover(); x != nil {
			o, writes, e = outcome{}, nil, faultOf(x)
		}
	}()
	if !mayBe(r) {
		return refused(api.ErrArg), nil, api.OK
	}
	d := newDesk(v)
	o = d.do(r)
	if o.reply.E != api.OK {
		return o, nil, api.OK
	}
	return o, d.writes(), api.OK
}

// mayBe tells whether a request is of a kind that there is, and what its kind has is as said.
func mayBe(r api.Request) bool {
	name := outbox.Name(r.Key)
	some := within(r.N, 1, api.MaxTotal)
	id := within(r.ID, 0, api.MaxTime)
	peer := within(r.Peer, 1, api.MaxPeer)
	seq := within(r.Seq, 0, api.MaxSeq)
	switch r.Kind {
	case api.QGrant, api.QSpend:
		return name && some
	case api.QQuota:
		return name && within(r.N, 0, api.MaxTotal)
	case api.QReserve:
		return name && id && some && within(r.Until, 0, api.MaxTime)
	case api.QConfirm, api.QCancel:
		return name && id
	case api.QExpire, api.QRead:
		return name
	case api.QClock:
		return within(r.N, 0, api.MaxTime)
	case api.QSend:
		return name && peer && some
	case api.QAcked:
		return peer && seq
	case api.QTake:
		return peer && seq && name && some
	}
	return false
}

// do does a request that may be.
func (d *desk) do(r api.Request) outcome {
	switch r.Kind {
	case api.QGrant:
		return d.change(r, rights.Grant, api.LGrant)
	case api.QSpend:
		return d.change(r, rights.Spend, api.LSpend)
	case api.QQuota:
		return d.change(r, rights.Quota, api.NoLine)
	case api.QReserve:
		return d.reserve(r)
	case api.QConfirm:
		return d.endHold(r, api.LConfirm, func(a api.Account, h api.Hold) (api.Account, api.Errno) {
			return rights.Confirm(a, h, d.clock())
		})
	case api.QCancel:
		return d.endHold(r, api.LRelease, rights.Cancel)
	case api.QExpire:
		return d.expire(r)
	case api.QClock:
		return d.setClock(r)
	case api.QSend:
		return d.send(r)
	case api.QAcked:
		return d.acked(r)
	case api.QTake:
		return d.take(r)
	}
	a := d.account(r.Key)
	return outcome{reply: api.Reply{N: a.Quota, Free: a.Free, Held: a.Held}}
}

// change changes an account by N.
func (d *desk) change(r api.Request, by func(a api.Account, n int) (api.Account, api.Errno), kind api.LineKind) outcome {
	a, e := by(d.account(r.Key), r.N)
	if e != api.OK {
		return refused(e)
	}
	d.setAccount(r.Key, a)
	return outcome{lines: line(kind, r.Key, r.N)}
}

// reserve holds rights.
func (d *desk) reserve(r api.Request) outcome {
	if r.Until < d.clock() {
		return refused(api.ErrLate)
	}
	if _, there := d.hold(r.Key, r.ID); there {
		return refused(api.ErrTwice)
	}
	h := api.Hold{N: r.N, Until: r.Until}
	a, e := rights.Reserve(d.account(r.Key), h)
	if e != api.OK {
		return refused(e)
	}
	d.setAccount(r.Key, a)
	d.put(told(outbox.HoldKey(r.Key, r.ID)), told(rights.HoldBytes(h)))
	return outcome{lines: line(api.LHold, r.Key, r.N)}
}

// endHold ends a hold.
func (d *desk) endHold(r api.Request, kind api.LineKind, by func(a api.Account, h api.Hold) (api.Account, api.Errno)) outcome {
	h, there := d.hold(r.Key, r.ID)
	if !there {
		return refused(api.ErrNoHold)
	}
	a, e := by(d.account(r.Key), h)
	if e != api.OK {
		return refused(e)
	}
	d.setAccount(r.Key, a)
	d.drop(told(outbox.HoldKey(r.Key, r.ID)))
	return outcome{reply: api.Reply{N: h.N}, lines: line(kind, r.Key, h.N)}
}

// expire ends a name's holds whose time is over.
func (d *desk) expire(r api.Request) outcome {
	now := d.clock()
	a := d.account(r.Key)
	n, due := 0, 0
	for _, row := range d.scan(told(outbox.HoldsKey(r.Key))) {
		if due == mostExpire {
			break
		}
		h := readRow(row.Val, rights.ReadHold)
		if h.Until >= now {
			continue
		}
		var e api.Errno
		if a, e = rights.Expire(a, h, now); e != api.OK {
			return refused(e)
		}
		d.drop(row.Key)
		n += h.N
		due++
	}
	d.setAccount(r.Key, a)
	o := outcome{reply: api.Reply{N: n}}
	if n > 0 {
		o.lines = line(api.LRelease, r.Key, n)
	}
	return o
}

// setClock lets the clock go on.
func (d *desk) setClock(r api.Request) outcome {
	if r.N > d.clock() {
		d.put(outbox.ClockKey(), told(outbox.NumBytes(r.N)))
	}
	return outcome{}
}

// send sends rights to a peer.
func (d *desk) send(r api.Request) outcome {
	a, e := rights.Debit(d.account(r.Key), r.N)
	if e != api.OK {
		return refused(e)
	}
	nextKey := told(outbox.NextKey(r.Peer))
	seq, _ := readAt(d, nextKey, outbox.ReadNum)
	waiting := d.scan(told(outbox.OutsKey(r.Peer)))
	next, e := outbox.Send(seq, len(waiting))
	if e != api.OK {
		return refused(e)
	}
	d.setAccount(r.Key, a)
	d.put(told(outbox.OutKey(r.Peer, seq)), told(outbox.IntentBytes(api.Intent{Key: r.Key, N: r.N})))
	d.put(nextKey, told(outbox.NumBytes(next)))
	return outcome{
		reply:    api.Reply{Seq: seq},
		messages: []api.Message{{Kind: api.MTransfer, Peer: r.Peer, Seq: seq, Key: r.Key, N: r.N}},
		lines:    line(api.LSend, r.Key, r.N),
	}
}

// acked ends a transfer that waits.
func (d *desk) acked(r api.Request) outcome {
	key := told(outbox.OutKey(r.Peer, r.Seq))
	x, there := readAt(d, key, outbox.ReadIntent)
	if !there {
		return refused(api.ErrNoOut)
	}
	d.drop(key)
	return outcome{lines: line(api.LAcked, x.Key, x.N)}
}

// take credits a transfer of a peer, once.
func (d *desk) take(r api.Request) outcome {
	key := told(outbox.InboxKey(r.Peer))
	box, _ := readAt(d, key, outbox.ReadInbox)
	ack := []api.Message{{Kind: api.MAck, Peer: r.Peer, Seq: r.Seq}}
	box, e := outbox.Take(box, r.Seq)
	if e == api.ErrKnown {
		return outcome{reply: api.Reply{E: e}, messages: ack}
	}
	if e != api.OK {
		return refused(e)
	}
	a, e := rights.Credit(d.account(r.Key), r.N)
	if e != api.OK {
		return refused(e)
	}
	d.put(key, told(outbox.InboxBytes(box)))
	d.setAccount(r.Key, a)
	return outcome{messages: ack, lines: line(api.LCredit, r.Key, r.N)}
}

// refused is the outcome of a request that is.
func refused(e api.Errno) outcome {
	return outcome{reply: api.Reply{E: e}}
}

// line is what books say, if there is a kind of line for it.
func line(kind api.LineKind, key string, n int) []api.Line {
	if kind == api.NoLine {
		return nil
	}
	return []api.Line{{Kind: kind, Key: key, N: n}}
}

// within tells whether a number lies between two others, or is one of them.
func within(n, least, most int) bool {
	return n >= least && n <= most
}

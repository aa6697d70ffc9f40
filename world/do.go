package world

import (
	"lien/api"
	"lien/wire"
)

// Do does a deed.
func (w *World) Do(d api.Deed) api.Errno {
	if !w.isMade() {
		return api.ErrNil
	}
	if w.deeds >= api.MaxDeeds {
		return api.ErrMany
	}
	w.deeds++
	defer w.letOut()
	switch d.Kind {
	case api.DAsk, api.DSync, api.DTick, api.DFlush, api.DCompact, api.DScrub, api.DResend:
		if w.e == nil {
			return api.ErrDeed
		}
		return w.doEngine(d)
	case api.DOffer, api.DAgain:
		if !isPeer(d.A) {
			return api.ErrDeed
		}
		return w.doPeer(d)
	case api.DCome:
		return w.come(d.A)
	case api.DLose:
		return w.net.Lose(d.A)
	case api.DTwin:
		return w.net.Twin(d.A)
	case api.DFuse:
		return w.d.Fuse(d.A)
	case api.DCrash:
		return w.crash(d.Fates)
	case api.DRot:
		if d.C < 0 || d.C > 255 {
			return api.ErrDeed
		}
		return w.d.Rot(d.A, d.B, byte(d.C))
	}
	return api.ErrDeed
}

// doEngine does a deed that needs an engine, which there is.
func (w *World) doEngine(d api.Deed) api.Errno {
	var e api.Errno
	switch d.Kind {
	case api.DAsk:
		return w.ask([]byte(d.Text))
	case api.DSync:
		return w.e.Sync()
	case api.DTick:
		_, e = w.e.Tick()
	case api.DFlush:
		return w.e.Flush()
	case api.DCompact:
		_, e = w.e.Compact()
	case api.DScrub:
		_, e = w.e.Scrub()
	default:
		return w.e.Resend(d.A)
	}
	return e
}

// doPeer does a deed of a peer, which there is.
func (w *World) doPeer(d api.Deed) api.Errno {
	p := w.peers[d.A]
	if d.Kind == api.DAgain {
		for _, m := range p.Again() {
			w.send(d.A, 0, m)
		}
		return api.OK
	}
	m, e := p.Offer(d.Text, d.B)
	if e == api.OK {
		w.send(d.A, 0, m)
	}
	return e
}

// ask asks the engine a request, and keeps which deed asked it.
func (w *World) ask(b []byte) api.Errno {
	_, e := w.e.Ask(b)
	if e == api.OK {
		w.asked = append(w.asked, w.deeds-1)
	}
	return e
}

// come lets a mail come.
func (w *World) come(i int) api.Errno {
	mail, e := w.net.Take(i)
	if e != api.OK {
		return e
	}
	m, e := wire.ReadMsg([]byte(mail.Text))
	if e != api.OK {
		return api.OK
	}
	if mail.To != 0 {
		if answer, ok := w.peers[mail.To].Hear(m); ok {
			w.send(mail.To, 0, answer)
		}
		return api.OK
	}
	if w.e == nil {
		return api.OK
	}
	b, e := wire.Bytes(asRequest(mail.From, m))
	if e != api.OK {
		return e
	}
	return w.ask(b)
}

// asRequest is what a message of a peer asks.
func asRequest(from int, m api.Message) api.Request {
	if m.Kind == api.MTransfer {
		return api.Request{Kind: api.QTake, Peer: from, Seq: m.Seq, Key: m.Key, N: m.N}
	}
	return api.Request{Kind: api.QAcked, Peer: from, Seq: m.Seq}
}

// crash lets the power go, and opens what is left.
func (w *World) crash(fates []api.Fate) api.Errno {
	d, e := w.d.Crash(fates...)
	if e != api.OK {
		return e
	}
	w.d = d
	return w.open()
}

// letOut lets out what the engine does: messages to the net, replies to who asked.
func (w *World) letOut() {
	for _, m := range w.e.Messages() {
		w.send(0, m.Peer, m)
	}
	for _, a := range w.e.Answers() {
		a.I = w.asked[a.I]
		w.told = append(w.told, a)
	}
}

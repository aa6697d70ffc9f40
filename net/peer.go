package net

import "lien/api"

// Peer stands in for another peer.
type Peer struct {
	n    int               // which one; 0: nobody made it
	sent book[api.Message] // what it has sent
	open book[api.Message] // what of that has no ack
	got  book[api.Message] // what it has got
}

// NewPeer: peer n.
func NewPeer(n int) (*Peer, api.Errno) {
	if n < 1 || n > api.MaxPeer {
		return nil, api.ErrPeer
	}
	return &Peer{n: n, sent: book[api.Message]{}, open: book[api.Message]{}, got: book[api.Message]{}}, api.OK
}

// Offer: it sends rights.
func (p *Peer) Offer(key string, n int) (api.Message, api.Errno) {
	switch {
	case !p.isMade():
		return api.Message{}, api.ErrNil
	case len(key) < 1 || len(key) > api.MaxName || n < 1 || n > api.MaxTotal:
		return api.Message{}, api.ErrArg
	case len(p.open) >= api.MaxOpen:
		return api.Message{}, api.ErrCrowded
	}
	m := api.Message{Kind: api.MTransfer, Peer: p.n, Seq: len(p.sent), Key: key, N: n}
	p.sent[m.Seq], p.open[m.Seq] = m, m
	return m, api.OK
}

// Hear: a message comes to it.
func (p *Peer) Hear(m api.Message) (api.Message, bool) {
	if !p.isMade() || m.Peer != p.n || m.Seq < 0 {
		return api.Message{}, false
	}
	switch m.Kind {
	case api.MTransfer:
		if _, had := p.got[m.Seq]; !had {
			p.got[m.Seq] = m
		}
		return api.Message{Kind: api.MAck, Peer: p.n, Seq: m.Seq}, true
	case api.MAck:
		delete(p.open, m.Seq)
	}
	return api.Message{}, false
}

// Again: its transfers without an ack.
func (p *Peer) Again() []api.Message {
	if !p.isMade() {
		return nil
	}
	return p.open.all()
}

// Got: what it got.
func (p *Peer) Got() []api.Message {
	if !p.isMade() {
		return nil
	}
	return p.got.all()
}

// Sent: what it sent.
func (p *Peer) Sent() []api.Message {
	if !p.isMade() {
		return nil
	}
	return p.sent.all()
}

// isMade tells whether NewPeer made it.
func (p *Peer) isMade() bool {
	return p != nil && p.n > 0
}
